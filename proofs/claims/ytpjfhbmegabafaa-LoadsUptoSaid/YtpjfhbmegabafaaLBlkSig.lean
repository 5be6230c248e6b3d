/- Regions of the reference's block256, one by one. Made by tools/regions.py.
   Regions of the reference's block256, one by one. Made by tools/regions.py.
   Regions of the reference's block256, one by one. Made by tools/regions.py.
   Regions of the reference's block256, one by one. Made by tools/regions.py. -/
import Derived.Test.YtpjfhbmegabafaaLBlkBase
namespace Go.Proofs.Ytpjfhbmegabafaa
open Go.RowKit
attribute [local go_sem] u_add u_wrap_add u_or u_and u_xor u_shr3 u_shr10

set_option maxRecDepth 100000 in
set_option maxHeartbeats 2000000 in
theorem blkSig0 {Aa Ab Ac Ad Ae Af Ag E8 E9 Ah Ai Aj Ak Al Am An Ao Ap Aq Ar As Au Av Aw Ax Ay Az A0 A1 A2 A3 A4 A5 A6 A7 A8 A9 Ba Bb Bc Bd Be Bf Bg Bh Bi Bj Bk Bl Bm Bn Bo Bp Bq Br Bs Fa Fb Fc Fd Fe Ff Fg Fh Fi Fj Fk Fl Fm Fn Fo Fp Fq Fr Fs Ft Fu Fv Fw Fx Fy Fz F0 F1 F2 F3 F4 F5 F6 F7 Bt Bu Bv Bw Bx Bz B0 B1 B2 B3 B4 B5 B6 B7 B8 B9 Ca Cb Cc Cd Ce Cf Cg Ch Ci Cj Ck Cl Cm Cn Co Cp Cq Cr Cs Ct Cu Cv Cw Cx Cy Cz C0 C1 C2 C3 C4 C5 C6 C7 C8 C9 Da Db Dc Dd De Df Dg Dh Di Dj Dk Dl Dm Dn Dp Dq Dr Ds Dt Du Dv Dw Dx Dy Dz D0 D1 D2 D3 D4 D5 D6 D7 D8 D9 Ea Eb Ec Ed Ee Ef Eg Eh Ei Ej Ek El Em En Eo Ep Er Es Et Eu Ev Ew Ex Ey Ez E0 E1 E2 E3 E4 E5 E6 E7 : Value} (y : BitVec 32) (BW k : Nat) (hk1 : 16 ≤ k) (hk : k < 64) {w : World} (c : w.cell? ⟨BW, k - 15, none⟩ = some (.int .u32 (u y))) {Q : Exit → Act → World → Prop}
    (hQ : ∀ (F8 F9 Ga Gb Gc Gd Ge Gf Gg Gh Gi Gj Gk Gl Gm Gn Gp : Value) (m : Nat), Q .normal ⟨#[
 Aa,Ab,Ac,Ad,Ae,Af,(.pointer (some ⟨BW,0,none⟩)),Ag,(.int .i64 (k : Int)),.int .u32 (u (Sha.sig0 y)),E9,Ah,Ai,Aj,Ak,Al,Am,An,Ao,Ap,Aq,Ar,As,
 Au,Av,Aw,Ax,Ay,Az,A0,A1,A2,A3,A4,A5,A6,A7,A8,A9,Ba,Bb,Bc,Bd,Be,Bf,Bg,Bh,Bi,Bj,Bk,Bl,Bm,Bn,Bo,Bp,Bq,
 Br,Bs,F8,F9,Ga,Gb,Gc,Gd,Ge,Gf,Gg,Gh,Gi,Gj,Gk,Gl,Gm,Gn,Gp,Fr,Fs,Ft,Fu,Fv,Fw,Fx,Fy,Fz,F0,F1,F2,F3,F4,
 F5,F6,F7,Bt,Bu,Bv,Bw,Bx,Bz,B0,B1,B2,B3,B4,B5,B6,B7,B8,B9,Ca,Cb,Cc,Cd,Ce,Cf,Cg,Ch,Ci,Cj,Ck,
 Cl,Cm,Cn,Co,Cp,Cq,Cr,Cs,Ct,Cu,Cv,Cw,Cx,Cy,Cz,C0,C1,C2,C3,C4,C5,C6,C7,C8,C9,Da,Db,Dc,Dd,
 De,Df,Dg,Dh,Di,Dj,Dk,Dl,Dm,Dn,Dp,Dq,Dr,Ds,Dt,Du,Dv,Dw,Dx,Dy,Dz,D0,D1,D2,D3,D4,D5,D6,D7,
 D8,D9,Ea,Eb,Ec,Ed,Ee,Ef,Eg,Eh,Ei,Ej,Ek,El,Em,En,Eo,Ep,Er,Es,Et,Eu,Ev,Ew,Ex,Ey,Ez,E0,E1,
    E2, E3, E4, E5, E6, E7], []⟩ (w.drewN m)) :
    Code.wp Try.prog (blkReg 10) Q ⟨#[
 Aa,Ab,Ac,Ad,Ae,Af,(.pointer (some ⟨BW,0,none⟩)),Ag,(.int .i64 (k : Int)),E8,E9,Ah,Ai,Aj,Ak,Al,Am,An,Ao,Ap,Aq,Ar,As,Au,Av,Aw,Ax,
 Ay,Az,A0,A1,A2,A3,A4,A5,A6,A7,A8,A9,Ba,Bb,Bc,Bd,Be,Bf,Bg,Bh,Bi,Bj,Bk,Bl,Bm,Bn,Bo,Bp,Bq,Br,Bs,Fa,Fb,
 Fc,Fd,Fe,Ff,Fg,Fh,Fi,Fj,Fk,Fl,Fm,Fn,Fo,Fp,Fq,Fr,Fs,Ft,Fu,Fv,Fw,Fx,Fy,Fz,F0,F1,F2,F3,F4,F5,F6,F7,Bt,
 Bu,Bv,Bw,Bx,Bz,B0,B1,B2,B3,B4,B5,B6,B7,B8,B9,Ca,Cb,Cc,Cd,Ce,Cf,Cg,Ch,Ci,Cj,Ck,Cl,Cm,Cn,Co,
 Cp,Cq,Cr,Cs,Ct,Cu,Cv,Cw,Cx,Cy,Cz,C0,C1,C2,C3,C4,C5,C6,C7,C8,C9,Da,Db,Dc,Dd,De,Df,Dg,Dh,
 Di,Dj,Dk,Dl,Dm,Dn,Dp,Dq,Dr,Ds,Dt,Du,Dv,Dw,Dx,Dy,Dz,D0,D1,D2,D3,D4,D5,D6,D7,D8,D9,Ea,Eb,
 Ec,Ed,Ee,Ef,Eg,Eh,Ei,Ej,Ek,El,Em,En,Eo,Ep,Er,Es,Et,Eu,Ev,Ew,Ex,Ey,Ez,E0,E1,E2,E3,E4,E5,
    E6, E7], []⟩ w := by
  conv => arg 2; whnf
  have s15 : IntKind.i64.wrap ((k : Int) - 15) = (k : Int) - 15 := IntWalk.i64_in _ (by omega)
  have p15 : 0 ≤ (k : Int) - 15 := by omega
  have r15 : 15 ≤ (k : Int) := by omega
  have q15 : (k : Int) - 15 < 64 := by omega
  have t15 : (k : Int) < 79 := by omega
  have n15 : ((k : Int) - 15).toNat = k - 15 := by omega
  go_quiet ((go_at_call 100; exact quiet_of_more (rot_any _ _ (by omega) (by omega) _)))
  exact hQ _ _ _ _ _ _ _ _ _ _ _ _ _ _ _ _ _ _

set_option maxRecDepth 100000 in
set_option maxHeartbeats 2000000 in
theorem blkSig1 {Aa Ab Ac Ad Ae Af Ag E8 E9 Ah Ai Aj Ak Al Am An Ao Ap Aq Ar As Au Av Aw Ax Ay Az A0 A1 A2 A3 A4 A5 A6 A7 A8 A9 Ba Bb Bc Bd Be Bf Bg Bh Bi Bj Bk Bl Bm Bn Bo Bp Bq Br Bs Fa Fb Fc Fd Fe Ff Fg Fh Fi Fj Fk Fl Fm Fn Fo Fp Fq Fr Fs Ft Fu Fv Fw Fx Fy Fz F0 F1 F2 F3 F4 F5 F6 F7 Bt Bu Bv Bw Bx Bz B0 B1 B2 B3 B4 B5 B6 B7 B8 B9 Ca Cb Cc Cd Ce Cf Cg Ch Ci Cj Ck Cl Cm Cn Co Cp Cq Cr Cs Ct Cu Cv Cw Cx Cy Cz C0 C1 C2 C3 C4 C5 C6 C7 C8 C9 Da Db Dc Dd De Df Dg Dh Di Dj Dk Dl Dm Dn Dp Dq Dr Ds Dt Du Dv Dw Dx Dy Dz D0 D1 D2 D3 D4 D5 D6 D7 D8 D9 Ea Eb Ec Ed Ee Ef Eg Eh Ei Ej Ek El Em En Eo Ep Er Es Et Eu Ev Ew Ex Ey Ez E0 E1 E2 E3 E4 E5 E6 E7 : Value} (y : BitVec 32) (BW k : Nat) (hk1 : 16 ≤ k) (hk : k < 64) {w : World} (c : w.cell? ⟨BW, k - 2, none⟩ = some (.int .u32 (u y))) {Q : Exit → Act → World → Prop}
    (hQ : ∀ (Gq Gr Gs Gt Gu Gv Gw Gx Gy Gz G0 G1 G2 G3 G4 G5 G6 : Value) (m : Nat), Q .normal ⟨#[
 Aa,Ab,Ac,Ad,Ae,Af,(.pointer (some ⟨BW,0,none⟩)),Ag,(.int .i64 (k : Int)),E8,.int .u32 (u (Sha.sig1 y)),Ah,Ai,Aj,Ak,Al,Am,An,Ao,Ap,Aq,Ar,As,Au,
 Av,Aw,Ax,Ay,Az,A0,A1,A2,A3,A4,A5,A6,A7,A8,A9,Ba,Bb,Bc,Bd,Be,Bf,Bg,Bh,Bi,Bj,Bk,Bl,Bm,Bn,Bo,Bp,Bq,Br,
 Bs,Fa,Fb,Fc,Fd,Fe,Ff,Fg,Fh,Fi,Fj,Fk,Fl,Fm,Fn,Fo,Fp,Fq,Gq,Gr,Gs,Gt,Gu,Gv,Gw,Gx,Gy,Gz,G0,G1,G2,G3,G4,
 G5,G6,Bt,Bu,Bv,Bw,Bx,Bz,B0,B1,B2,B3,B4,B5,B6,B7,B8,B9,Ca,Cb,Cc,Cd,Ce,Cf,Cg,Ch,Ci,Cj,Ck,Cl,
 Cm,Cn,Co,Cp,Cq,Cr,Cs,Ct,Cu,Cv,Cw,Cx,Cy,Cz,C0,C1,C2,C3,C4,C5,C6,C7,C8,C9,Da,Db,Dc,Dd,De,
 Df,Dg,Dh,Di,Dj,Dk,Dl,Dm,Dn,Dp,Dq,Dr,Ds,Dt,Du,Dv,Dw,Dx,Dy,Dz,D0,D1,D2,D3,D4,D5,D6,D7,D8,
 D9,Ea,Eb,Ec,Ed,Ee,Ef,Eg,Eh,Ei,Ej,Ek,El,Em,En,Eo,Ep,Er,Es,Et,Eu,Ev,Ew,Ex,Ey,Ez,E0,E1,E2,
    E3, E4, E5, E6, E7], []⟩ (w.drewN m)) :
    Code.wp Try.prog (blkReg 11) Q ⟨#[
 Aa,Ab,Ac,Ad,Ae,Af,(.pointer (some ⟨BW,0,none⟩)),Ag,(.int .i64 (k : Int)),E8,E9,Ah,Ai,Aj,Ak,Al,Am,An,Ao,Ap,Aq,Ar,As,Au,Av,Aw,Ax,
 Ay,Az,A0,A1,A2,A3,A4,A5,A6,A7,A8,A9,Ba,Bb,Bc,Bd,Be,Bf,Bg,Bh,Bi,Bj,Bk,Bl,Bm,Bn,Bo,Bp,Bq,Br,Bs,Fa,Fb,
 Fc,Fd,Fe,Ff,Fg,Fh,Fi,Fj,Fk,Fl,Fm,Fn,Fo,Fp,Fq,Fr,Fs,Ft,Fu,Fv,Fw,Fx,Fy,Fz,F0,F1,F2,F3,F4,F5,F6,F7,Bt,
 Bu,Bv,Bw,Bx,Bz,B0,B1,B2,B3,B4,B5,B6,B7,B8,B9,Ca,Cb,Cc,Cd,Ce,Cf,Cg,Ch,Ci,Cj,Ck,Cl,Cm,Cn,Co,
 Cp,Cq,Cr,Cs,Ct,Cu,Cv,Cw,Cx,Cy,Cz,C0,C1,C2,C3,C4,C5,C6,C7,C8,C9,Da,Db,Dc,Dd,De,Df,Dg,Dh,
 Di,Dj,Dk,Dl,Dm,Dn,Dp,Dq,Dr,Ds,Dt,Du,Dv,Dw,Dx,Dy,Dz,D0,D1,D2,D3,D4,D5,D6,D7,D8,D9,Ea,Eb,
 Ec,Ed,Ee,Ef,Eg,Eh,Ei,Ej,Ek,El,Em,En,Eo,Ep,Er,Es,Et,Eu,Ev,Ew,Ex,Ey,Ez,E0,E1,E2,E3,E4,E5,
    E6, E7], []⟩ w := by
  conv => arg 2; whnf
  have s2 : IntKind.i64.wrap ((k : Int) - 2) = (k : Int) - 2 := IntWalk.i64_in _ (by omega)
  have p2 : 0 ≤ (k : Int) - 2 := by omega
  have r2 : 2 ≤ (k : Int) := by omega
  have q2 : (k : Int) - 2 < 64 := by omega
  have t2 : (k : Int) < 66 := by omega
  have n2 : ((k : Int) - 2).toNat = k - 2 := by omega
  go_quiet ((go_at_call 100; exact quiet_of_more (rot_any _ _ (by omega) (by omega) _)))
  exact hQ _ _ _ _ _ _ _ _ _ _ _ _ _ _ _ _ _ _

set_option maxRecDepth 100000 in
theorem blkSig0A {T : Array Value} {l0 l1 l2 l4 l5 l7 l9 l10 l11 l12 l13 l14 l15 l16 l17 : Value} (y : BitVec 32) (BW k : Nat) (hk1 : 16 ≤ k) (hk : k < 64) {w : World} (c : w.cell? ⟨BW, k - 15, none⟩ = some (.int .u32 (u y))) {Q : Exit → Act → World → Prop} (hL : blkLive T l0 l1 l2 l4 l5 (.pointer (some ⟨BW, 0, none⟩)) l7 (.int .i64 (k : Int)) l9 l10 l11 l12 l13 l14 l15 l16 l17)
    (hQ : ∀ (T' : Array Value) (m : Nat), blkLive T' l0 l1 l2 l4 l5 (.pointer (some ⟨BW, 0, none⟩)) l7 (.int .i64 (k : Int)) (.int .u32 (u (Sha.sig0 y))) l10 l11 l12 l13 l14 l15 l16 l17 → Q .normal ⟨T', []⟩ (w.drewN m)) : Code.wp Try.prog (blkReg 10) Q ⟨T, []⟩ w := by
  rw [blkOut T hL.size]
  rw [hL.s0, hL.s1, hL.s2, hL.s4, hL.s5, hL.s6, hL.s7, hL.s8, hL.s9, hL.s10, hL.s11, hL.s12, hL.s13, hL.s14, hL.s15, hL.s16, hL.s17]
  refine blkSig0 y BW k hk1 hk c ?_
  intros
  exact hQ _ _ ⟨rfl, rfl, rfl, rfl, rfl, rfl, rfl, rfl, rfl, rfl, rfl, rfl, rfl, rfl, rfl, rfl, rfl, rfl⟩

set_option maxRecDepth 100000 in
theorem blkSig1A {T : Array Value} {l0 l1 l2 l4 l5 l7 l9 l10 l11 l12 l13 l14 l15 l16 l17 : Value} (y : BitVec 32) (BW k : Nat) (hk1 : 16 ≤ k) (hk : k < 64) {w : World} (c : w.cell? ⟨BW, k - 2, none⟩ = some (.int .u32 (u y))) {Q : Exit → Act → World → Prop} (hL : blkLive T l0 l1 l2 l4 l5 (.pointer (some ⟨BW, 0, none⟩)) l7 (.int .i64 (k : Int)) l9 l10 l11 l12 l13 l14 l15 l16 l17)
    (hQ : ∀ (T' : Array Value) (m : Nat), blkLive T' l0 l1 l2 l4 l5 (.pointer (some ⟨BW, 0, none⟩)) l7 (.int .i64 (k : Int)) l9 (.int .u32 (u (Sha.sig1 y))) l11 l12 l13 l14 l15 l16 l17 → Q .normal ⟨T', []⟩ (w.drewN m)) : Code.wp Try.prog (blkReg 11) Q ⟨T, []⟩ w := by
  rw [blkOut T hL.size]
  rw [hL.s0, hL.s1, hL.s2, hL.s4, hL.s5, hL.s6, hL.s7, hL.s8, hL.s9, hL.s10, hL.s11, hL.s12, hL.s13, hL.s14, hL.s15, hL.s16, hL.s17]
  refine blkSig1 y BW k hk1 hk c ?_
  intros
  exact hQ _ _ ⟨rfl, rfl, rfl, rfl, rfl, rfl, rfl, rfl, rfl, rfl, rfl, rfl, rfl, rfl, rfl, rfl, rfl, rfl⟩

end Go.Proofs.Ytpjfhbmegabafaa
namespace Go.Proofs.Ytpjfhbmegabafaa
open Go.RowKit
attribute [local go_sem] u_add u_wrap_add u_or u_and u_xor u_shr3 u_shr10

set_option maxRecDepth 100000 in
set_option maxHeartbeats 2000000 in
theorem blkSum1 {Aa Ab Ac Ad Ae Af Ag Ah Ai Aj Ak Al Fl Am Fm An Ao Ap Aq Ar As Au Av Aw Ax Ay Az A0 A1 A2 A3 A4 A5 A6 A7 A8 A9 Ba Bb Bc Bd Be Bf Bg Bh Bi Bj Bk Bl Bm Bn Bo Bp Bq Br Bs Bt Bu Bv Bw Bx Bz B0 B1 B2 B3 B4 B5 B6 B7 B8 B9 Ca Cb Cc Cd Ce Cf Cg Ch Ci Cj Ck Cl Cm Cn Co Cp Cq Cr Cs Ct Cu Cv Cw Cx Cy Cz C0 C1 C2 C3 C4 C5 C6 C7 C8 C9 Da Db Dc Fn Fo Fp Fq Fr Fs Ft Fu Fv Fw Fx Dd De Df Dg Dh Di Dj Dk Dl Dm Dn Dp Dq Dr Ds Dt Du Dv Dw Dx Dy Dz D0 D1 D2 Fy Fz F0 F1 F2 F3 F4 F5 F6 F7 F8 D3 D4 D5 D6 D7 D8 D9 Ea Eb Ec Ed Ee Ef Eg Eh Ei Ej Ek El Em En Eo Ep Er Es Et Eu Ev Ew Ex Ey Ez E0 E1 E2 E3 E4 E5 E6 E7 E8 E9 Fa Fb Fc Fd Fe Ff Fg Fh Fi Fj Fk : Value} (y : BitVec 32) (BV : Nat) {w : World} (c : w.cell? ⟨BV, 4, none⟩ = some (.int .u32 (u y))) {Q : Exit → Act → World → Prop}
    (hQ : ∀ (F9 Ga Gb Gc Gd Ge Gf Gg Gh Gi Gj : Value) (m : Nat), Q .normal ⟨#[
 Aa,Ab,Ac,Ad,Ae,Af,Ag,Ah,Ai,Aj,Ak,(.pointer (some ⟨BV,0,none⟩)),Al,.int .u32 (u (Sha.sum1 y)),Am,Fm,An,Ao,Ap,Aq,Ar,As,Au,Av,Aw,Ax,Ay,
 Az,A0,A1,A2,A3,A4,A5,A6,A7,A8,A9,Ba,Bb,Bc,Bd,Be,Bf,Bg,Bh,Bi,Bj,Bk,Bl,Bm,Bn,Bo,Bp,Bq,Br,Bs,Bt,Bu,Bv,
 Bw,Bx,Bz,B0,B1,B2,B3,B4,B5,B6,B7,B8,B9,Ca,Cb,Cc,Cd,Ce,Cf,Cg,Ch,Ci,Cj,Ck,Cl,Cm,Cn,Co,Cp,Cq,Cr,Cs,Ct,
 Cu,Cv,Cw,Cx,Cy,Cz,C0,C1,C2,C3,C4,C5,C6,C7,C8,C9,Da,Db,Dc,F9,Ga,Gb,Gc,Gd,Ge,Gf,Gg,Gh,Gi,Gj,
 Dd,De,Df,Dg,Dh,Di,Dj,Dk,Dl,Dm,Dn,Dp,Dq,Dr,Ds,Dt,Du,Dv,Dw,Dx,Dy,Dz,D0,D1,D2,Fy,Fz,F0,F1,
 F2,F3,F4,F5,F6,F7,F8,D3,D4,D5,D6,D7,D8,D9,Ea,Eb,Ec,Ed,Ee,Ef,Eg,Eh,Ei,Ej,Ek,El,Em,En,Eo,
 Ep,Er,Es,Et,Eu,Ev,Ew,Ex,Ey,Ez,E0,E1,E2,E3,E4,E5,E6,E7,E8,E9,Fa,Fb,Fc,Fd,Fe,Ff,Fg,Fh,Fi,
    Fj, Fk], []⟩ (w.drewN m)) :
    Code.wp Try.prog (blkReg 17) Q ⟨#[
 Aa,Ab,Ac,Ad,Ae,Af,Ag,Ah,Ai,Aj,Ak,(.pointer (some ⟨BV,0,none⟩)),Al,Fl,Am,Fm,An,Ao,Ap,Aq,Ar,As,Au,Av,Aw,Ax,Ay,Az,A0,A1,
 A2,A3,A4,A5,A6,A7,A8,A9,Ba,Bb,Bc,Bd,Be,Bf,Bg,Bh,Bi,Bj,Bk,Bl,Bm,Bn,Bo,Bp,Bq,Br,Bs,Bt,Bu,Bv,Bw,Bx,Bz,
 B0,B1,B2,B3,B4,B5,B6,B7,B8,B9,Ca,Cb,Cc,Cd,Ce,Cf,Cg,Ch,Ci,Cj,Ck,Cl,Cm,Cn,Co,Cp,Cq,Cr,Cs,Ct,Cu,Cv,Cw,
 Cx,Cy,Cz,C0,C1,C2,C3,C4,C5,C6,C7,C8,C9,Da,Db,Dc,Fn,Fo,Fp,Fq,Fr,Fs,Ft,Fu,Fv,Fw,Fx,Dd,De,
 Df,Dg,Dh,Di,Dj,Dk,Dl,Dm,Dn,Dp,Dq,Dr,Ds,Dt,Du,Dv,Dw,Dx,Dy,Dz,D0,D1,D2,Fy,Fz,F0,F1,F2,F3,
 F4,F5,F6,F7,F8,D3,D4,D5,D6,D7,D8,D9,Ea,Eb,Ec,Ed,Ee,Ef,Eg,Eh,Ei,Ej,Ek,El,Em,En,Eo,Ep,Er,
 Es,Et,Eu,Ev,Ew,Ex,Ey,Ez,E0,E1,E2,E3,E4,E5,E6,E7,E8,E9,Fa,Fb,Fc,Fd,Fe,Ff,Fg,Fh,Fi,Fj,Fk
    ], []⟩ w := by
  conv => arg 2; whnf
  go_quiet ((go_at_call 100; exact quiet_of_more (rot_any _ _ (by omega) (by omega) _)))
  exact hQ _ _ _ _ _ _ _ _ _ _ _ _

set_option maxRecDepth 100000 in
set_option maxHeartbeats 2000000 in
theorem blkSum0 {Aa Ab Ac Ad Ae Af Ag Ah Ai Aj Ak Al Fl Am Fm An Ao Ap Aq Ar As Au Av Aw Ax Ay Az A0 A1 A2 A3 A4 A5 A6 A7 A8 A9 Ba Bb Bc Bd Be Bf Bg Bh Bi Bj Bk Bl Bm Bn Bo Bp Bq Br Bs Bt Bu Bv Bw Bx Bz B0 B1 B2 B3 B4 B5 B6 B7 B8 B9 Ca Cb Cc Cd Ce Cf Cg Ch Ci Cj Ck Cl Cm Cn Co Cp Cq Cr Cs Ct Cu Cv Cw Cx Cy Cz C0 C1 C2 C3 C4 C5 C6 C7 C8 C9 Da Db Dc Fn Fo Fp Fq Fr Fs Ft Fu Fv Fw Fx Dd De Df Dg Dh Di Dj Dk Dl Dm Dn Dp Dq Dr Ds Dt Du Dv Dw Dx Dy Dz D0 D1 D2 Fy Fz F0 F1 F2 F3 F4 F5 F6 F7 F8 D3 D4 D5 D6 D7 D8 D9 Ea Eb Ec Ed Ee Ef Eg Eh Ei Ej Ek El Em En Eo Ep Er Es Et Eu Ev Ew Ex Ey Ez E0 E1 E2 E3 E4 E5 E6 E7 E8 E9 Fa Fb Fc Fd Fe Ff Fg Fh Fi Fj Fk : Value} (y : BitVec 32) (BV : Nat) {w : World} (c : w.cell? ⟨BV, 0, none⟩ = some (.int .u32 (u y))) {Q : Exit → Act → World → Prop}
    (hQ : ∀ (Gk Gl Gm Gn Gp Gq Gr Gs Gt Gu Gv : Value) (m : Nat), Q .normal ⟨#[
 Aa,Ab,Ac,Ad,Ae,Af,Ag,Ah,Ai,Aj,Ak,(.pointer (some ⟨BV,0,none⟩)),Al,Fl,Am,.int .u32 (u (Sha.sum0 y)),An,Ao,Ap,Aq,Ar,As,Au,Av,Aw,Ax,Ay,
 Az,A0,A1,A2,A3,A4,A5,A6,A7,A8,A9,Ba,Bb,Bc,Bd,Be,Bf,Bg,Bh,Bi,Bj,Bk,Bl,Bm,Bn,Bo,Bp,Bq,Br,Bs,Bt,Bu,Bv,
 Bw,Bx,Bz,B0,B1,B2,B3,B4,B5,B6,B7,B8,B9,Ca,Cb,Cc,Cd,Ce,Cf,Cg,Ch,Ci,Cj,Ck,Cl,Cm,Cn,Co,Cp,Cq,Cr,Cs,Ct,
 Cu,Cv,Cw,Cx,Cy,Cz,C0,C1,C2,C3,C4,C5,C6,C7,C8,C9,Da,Db,Dc,Fn,Fo,Fp,Fq,Fr,Fs,Ft,Fu,Fv,Fw,Fx,
 Dd,De,Df,Dg,Dh,Di,Dj,Dk,Dl,Dm,Dn,Dp,Dq,Dr,Ds,Dt,Du,Dv,Dw,Dx,Dy,Dz,D0,D1,D2,Gk,Gl,Gm,Gn,
 Gp,Gq,Gr,Gs,Gt,Gu,Gv,D3,D4,D5,D6,D7,D8,D9,Ea,Eb,Ec,Ed,Ee,Ef,Eg,Eh,Ei,Ej,Ek,El,Em,En,Eo,
 Ep,Er,Es,Et,Eu,Ev,Ew,Ex,Ey,Ez,E0,E1,E2,E3,E4,E5,E6,E7,E8,E9,Fa,Fb,Fc,Fd,Fe,Ff,Fg,Fh,Fi,
    Fj, Fk], []⟩ (w.drewN m)) :
    Code.wp Try.prog (blkReg 19) Q ⟨#[
 Aa,Ab,Ac,Ad,Ae,Af,Ag,Ah,Ai,Aj,Ak,(.pointer (some ⟨BV,0,none⟩)),Al,Fl,Am,Fm,An,Ao,Ap,Aq,Ar,As,Au,Av,Aw,Ax,Ay,Az,A0,A1,
 A2,A3,A4,A5,A6,A7,A8,A9,Ba,Bb,Bc,Bd,Be,Bf,Bg,Bh,Bi,Bj,Bk,Bl,Bm,Bn,Bo,Bp,Bq,Br,Bs,Bt,Bu,Bv,Bw,Bx,Bz,
 B0,B1,B2,B3,B4,B5,B6,B7,B8,B9,Ca,Cb,Cc,Cd,Ce,Cf,Cg,Ch,Ci,Cj,Ck,Cl,Cm,Cn,Co,Cp,Cq,Cr,Cs,Ct,Cu,Cv,Cw,
 Cx,Cy,Cz,C0,C1,C2,C3,C4,C5,C6,C7,C8,C9,Da,Db,Dc,Fn,Fo,Fp,Fq,Fr,Fs,Ft,Fu,Fv,Fw,Fx,Dd,De,
 Df,Dg,Dh,Di,Dj,Dk,Dl,Dm,Dn,Dp,Dq,Dr,Ds,Dt,Du,Dv,Dw,Dx,Dy,Dz,D0,D1,D2,Fy,Fz,F0,F1,F2,F3,
 F4,F5,F6,F7,F8,D3,D4,D5,D6,D7,D8,D9,Ea,Eb,Ec,Ed,Ee,Ef,Eg,Eh,Ei,Ej,Ek,El,Em,En,Eo,Ep,Er,
 Es,Et,Eu,Ev,Ew,Ex,Ey,Ez,E0,E1,E2,E3,E4,E5,E6,E7,E8,E9,Fa,Fb,Fc,Fd,Fe,Ff,Fg,Fh,Fi,Fj,Fk
    ], []⟩ w := by
  conv => arg 2; whnf
  go_quiet ((go_at_call 100; exact quiet_of_more (rot_any _ _ (by omega) (by omega) _)))
  exact hQ _ _ _ _ _ _ _ _ _ _ _ _

set_option maxRecDepth 100000 in
theorem blkSum1A {T : Array Value} {l0 l1 l2 l4 l5 l6 l7 l8 l9 l10 l12 l13 l14 l15 l16 l17 : Value} (y : BitVec 32) (BV : Nat) {w : World} (c : w.cell? ⟨BV, 4, none⟩ = some (.int .u32 (u y))) {Q : Exit → Act → World → Prop} (hL : blkLive T l0 l1 l2 l4 l5 l6 l7 l8 l9 l10 (.pointer (some ⟨BV, 0, none⟩)) l12 l13 l14 l15 l16 l17)
    (hQ : ∀ (T' : Array Value) (m : Nat), blkLive T' l0 l1 l2 l4 l5 l6 l7 l8 l9 l10 (.pointer (some ⟨BV, 0, none⟩)) l12 (.int .u32 (u (Sha.sum1 y))) l14 l15 l16 l17 → Q .normal ⟨T', []⟩ (w.drewN m)) : Code.wp Try.prog (blkReg 17) Q ⟨T, []⟩ w := by
  rw [blkOut T hL.size]
  rw [hL.s0, hL.s1, hL.s2, hL.s4, hL.s5, hL.s6, hL.s7, hL.s8, hL.s9, hL.s10, hL.s11, hL.s12, hL.s13, hL.s14, hL.s15, hL.s16, hL.s17]
  refine blkSum1 y BV c ?_
  intros
  exact hQ _ _ ⟨rfl, rfl, rfl, rfl, rfl, rfl, rfl, rfl, rfl, rfl, rfl, rfl, rfl, rfl, rfl, rfl, rfl, rfl⟩

set_option maxRecDepth 100000 in
theorem blkSum0A {T : Array Value} {l0 l1 l2 l4 l5 l6 l7 l8 l9 l10 l12 l13 l14 l15 l16 l17 : Value} (y : BitVec 32) (BV : Nat) {w : World} (c : w.cell? ⟨BV, 0, none⟩ = some (.int .u32 (u y))) {Q : Exit → Act → World → Prop} (hL : blkLive T l0 l1 l2 l4 l5 l6 l7 l8 l9 l10 (.pointer (some ⟨BV, 0, none⟩)) l12 l13 l14 l15 l16 l17)
    (hQ : ∀ (T' : Array Value) (m : Nat), blkLive T' l0 l1 l2 l4 l5 l6 l7 l8 l9 l10 (.pointer (some ⟨BV, 0, none⟩)) l12 l13 l14 (.int .u32 (u (Sha.sum0 y))) l16 l17 → Q .normal ⟨T', []⟩ (w.drewN m)) : Code.wp Try.prog (blkReg 19) Q ⟨T, []⟩ w := by
  rw [blkOut T hL.size]
  rw [hL.s0, hL.s1, hL.s2, hL.s4, hL.s5, hL.s6, hL.s7, hL.s8, hL.s9, hL.s10, hL.s11, hL.s12, hL.s13, hL.s14, hL.s15, hL.s16, hL.s17]
  refine blkSum0 y BV c ?_
  intros
  exact hQ _ _ ⟨rfl, rfl, rfl, rfl, rfl, rfl, rfl, rfl, rfl, rfl, rfl, rfl, rfl, rfl, rfl, rfl, rfl, rfl⟩

end Go.Proofs.Ytpjfhbmegabafaa
namespace Go.Proofs.Ytpjfhbmegabafaa
open Go.RowKit
attribute [local go_sem] u_add u_wrap_add u_or u_and u_xor u_shr3 u_shr10 u_not

set_option maxRecDepth 100000 in
set_option maxHeartbeats 2000000 in
theorem blkT {Aa Ab Ac Ad Ae Af Ag Ah Ai Ff Aj Ak Al Am An Ao Ap Aq Ar As Au Av Aw Ax Ay Az A0 A1 A2 A3 A4 A5 A6 A7 A8 A9 Ba Bb Bc Bd Be Bf Bg Bh Bi Bj Bk Bl Bm Bn Bo Bp Bq Br Bs Bt Bu Bv Bw Bx Bz B0 B1 B2 B3 B4 B5 B6 B7 B8 B9 Ca Cb Cc Cd Ce Cf Cg Ch Ci Cj Ck Cl Cm Cn Co Cp Cq Cr Cs Ct Cu Cv Cw Cx Cy Cz C0 C1 C2 C3 C4 C5 C6 C7 C8 C9 Da Db Dc Dd De Df Dg Dh Di Dj Dk Fg Fh Fi Fj Fk Fl Fm Fn Fo Fp Fq Fr Fs Ft Fu Fv Fw Fx Fy Fz F0 F1 F2 F3 F4 Dl Dm Dn Dp Dq Dr Ds Dt Du Dv Dw Dx Dy Dz D0 D1 D2 D3 D4 D5 D6 D7 D8 D9 Ea Eb Ec Ed Ee Ef Eg Eh Ei Ej Ek El Em En Eo Ep Er Es Et Eu Ev Ew Ex Ey Ez E0 E1 E2 E3 E4 E5 E6 E7 E8 E9 Fa Fb Fc Fd Fe : Value} (a e f g h K V : BitVec 32) (BV BK BW k : Nat) (hk : k < 64) {w : World} (c4 : w.cell? ⟨BV, 4, none⟩ = some (.int .u32 (u e))) (c5 : w.cell? ⟨BV, 5, none⟩ = some (.int .u32 (u f))) (c6 : w.cell? ⟨BV, 6, none⟩ = some (.int .u32 (u g))) (c7 : w.cell? ⟨BV, 7, none⟩ = some (.int .u32 (u h))) (cK : w.cell? ⟨BK, k, none⟩ = some (.int .u32 (u K))) (cW : w.cell? ⟨BW, k, none⟩ = some (.int .u32 (u V))) {Q : Exit → Act → World → Prop}
    (hQ : ∀ (F5 F6 F7 F8 F9 Ga Gb Gc Gd Ge Gf Gg Gh Gi Gj Gk Gl Gm Gn Gp Gq Gr Gs Gt Gu : Value) (m : Nat), Q .normal ⟨#[
 Aa,Ab,Ac,Ad,Ae,(.pointer (some ⟨BK,0,none⟩)),(.pointer (some ⟨BW,0,none⟩)),Af,Ag,Ah,Ai,(.pointer (some ⟨BV,0,none⟩)),(.int .i64 (k : Int)),(.int .u32 (u (a))),.int .u32 (u (h + a + Sha.ch e f g + K + V)),
 Aj,Ak,Al,Am,An,Ao,Ap,Aq,Ar,As,Au,Av,Aw,Ax,Ay,Az,A0,A1,A2,A3,A4,A5,A6,A7,A8,A9,Ba,Bb,Bc,Bd,Be,Bf,Bg,
 Bh,Bi,Bj,Bk,Bl,Bm,Bn,Bo,Bp,Bq,Br,Bs,Bt,Bu,Bv,Bw,Bx,Bz,B0,B1,B2,B3,B4,B5,B6,B7,B8,B9,Ca,Cb,Cc,Cd,Ce,
 Cf,Cg,Ch,Ci,Cj,Ck,Cl,Cm,Cn,Co,Cp,Cq,Cr,Cs,Ct,Cu,Cv,Cw,Cx,Cy,Cz,C0,C1,C2,C3,C4,C5,C6,C7,C8,C9,
 Da,Db,Dc,Dd,De,Df,Dg,Dh,Di,Dj,Dk,F5,F6,F7,F8,F9,Ga,Gb,Gc,Gd,Ge,Gf,Gg,Gh,Gi,Gj,Gk,Gl,Gm,
 Gn,Gp,Gq,Gr,Gs,Gt,Gu,Dl,Dm,Dn,Dp,Dq,Dr,Ds,Dt,Du,Dv,Dw,Dx,Dy,Dz,D0,D1,D2,D3,D4,D5,D6,D7,
 D8,D9,Ea,Eb,Ec,Ed,Ee,Ef,Eg,Eh,Ei,Ej,Ek,El,Em,En,Eo,Ep,Er,Es,Et,Eu,Ev,Ew,Ex,Ey,Ez,E0,E1,
 E2,E3,E4,E5,E6,E7,E8,E9,Fa,Fb,Fc,Fd,Fe],[]⟩ (w.drewN m)) :
    Code.wp Try.prog (blkReg 18) Q ⟨#[
 Aa,Ab,Ac,Ad,Ae,(.pointer (some ⟨BK,0,none⟩)),(.pointer (some ⟨BW,0,none⟩)),Af,Ag,Ah,Ai,(.pointer (some ⟨BV,0,none⟩)),(.int .i64 (k : Int)),(.int .u32 (u (a))),Ff,Aj,
 Ak,Al,Am,An,Ao,Ap,Aq,Ar,As,Au,Av,Aw,Ax,Ay,Az,A0,A1,A2,A3,A4,A5,A6,A7,A8,A9,Ba,Bb,Bc,Bd,Be,Bf,Bg,Bh,
 Bi,Bj,Bk,Bl,Bm,Bn,Bo,Bp,Bq,Br,Bs,Bt,Bu,Bv,Bw,Bx,Bz,B0,B1,B2,B3,B4,B5,B6,B7,B8,B9,Ca,Cb,Cc,Cd,Ce,Cf,
 Cg,Ch,Ci,Cj,Ck,Cl,Cm,Cn,Co,Cp,Cq,Cr,Cs,Ct,Cu,Cv,Cw,Cx,Cy,Cz,C0,C1,C2,C3,C4,C5,C6,C7,C8,C9,Da,
 Db,Dc,Dd,De,Df,Dg,Dh,Di,Dj,Dk,Fg,Fh,Fi,Fj,Fk,Fl,Fm,Fn,Fo,Fp,Fq,Fr,Fs,Ft,Fu,Fv,Fw,Fx,Fy,
 Fz,F0,F1,F2,F3,F4,Dl,Dm,Dn,Dp,Dq,Dr,Ds,Dt,Du,Dv,Dw,Dx,Dy,Dz,D0,D1,D2,D3,D4,D5,D6,D7,D8,
 D9,Ea,Eb,Ec,Ed,Ee,Ef,Eg,Eh,Ei,Ej,Ek,El,Em,En,Eo,Ep,Er,Es,Et,Eu,Ev,Ew,Ex,Ey,Ez,E0,E1,E2,
 E3,E4,E5,E6,E7,E8,E9,Fa,Fb,Fc,Fd,Fe],[]⟩ w := by
  conv => arg 2; whnf
  have q : (k : Int) < 64 := by omega
  go_quiet (fail)
  exact hQ _ _ _ _ _ _ _ _ _ _ _ _ _ _ _ _ _ _ _ _ _ _ _ _ _ _

set_option maxRecDepth 100000 in
theorem blkTA {T : Array Value} {l0 l1 l2 l4 l7 l8 l9 l10 l14 l15 l16 l17 : Value} (a e f g h K V : BitVec 32) (BV BK BW k : Nat) (hk : k < 64) {w : World} (c4 : w.cell? ⟨BV, 4, none⟩ = some (.int .u32 (u e))) (c5 : w.cell? ⟨BV, 5, none⟩ = some (.int .u32 (u f))) (c6 : w.cell? ⟨BV, 6, none⟩ = some (.int .u32 (u g))) (c7 : w.cell? ⟨BV, 7, none⟩ = some (.int .u32 (u h))) (cK : w.cell? ⟨BK, k, none⟩ = some (.int .u32 (u K))) (cW : w.cell? ⟨BW, k, none⟩ = some (.int .u32 (u V))) {Q : Exit → Act → World → Prop} (hL : blkLive T l0 l1 l2 l4 (.pointer (some ⟨BK, 0, none⟩)) (.pointer (some ⟨BW, 0, none⟩)) l7 l8 l9 l10 (.pointer (some ⟨BV, 0, none⟩)) (.int .i64 (k : Int)) (.int .u32 (u (a))) l14 l15 l16 l17)
 (hQ : ∀ (T' : Array Value) (m : Nat),blkLive T' l0 l1 l2 l4 (.pointer (some ⟨BK,0,none⟩)) (.pointer (some ⟨BW,0,none⟩)) l7 l8 l9 l10 (.pointer (some ⟨BV,0,none⟩)) (.int .i64 (k : Int)) (.int .u32 (u (a))) (.int .u32 (u (h + a + Sha.ch e f g + K + V))) l15 l16 l17 → Q .normal ⟨T',[]⟩ (w.drewN m)) : Code.wp Try.prog (blkReg 18) Q ⟨T,[]⟩ w := by
  rw [blkOut T hL.size]
  rw [hL.s0, hL.s1, hL.s2, hL.s4, hL.s5, hL.s6, hL.s7, hL.s8, hL.s9, hL.s10, hL.s11, hL.s12, hL.s13, hL.s14, hL.s15, hL.s16, hL.s17]
  refine blkT a e f g h K V BV BK BW k hk c4 c5 c6 c7 cK cW ?_
  intros
  exact hQ _ _ ⟨rfl, rfl, rfl, rfl, rfl, rfl, rfl, rfl, rfl, rfl, rfl, rfl, rfl, rfl, rfl, rfl, rfl, rfl⟩

end Go.Proofs.Ytpjfhbmegabafaa
namespace Go.Proofs.Ytpjfhbmegabafaa
open Go.RowKit
attribute [local go_sem] u_add u_wrap_add u_or u_and u_xor u_shr3 u_shr10 u_not

set_option maxRecDepth 100000 in
set_option maxHeartbeats 2000000 in
theorem blkU {Aa Ab Ac Ad Ae Af Ag Ah Ai Aj Ak Al Am An Fo Ao Ap Aq Ar As Au Av Aw Ax Ay Az A0 A1 A2 A3 A4 A5 A6 A7 A8 A9 Ba Bb Bc Bd Be Bf Bg Bh Bi Bj Bk Bl Bm Bn Bo Bp Bq Br Bs Bt Bu Bv Bw Bx Bz B0 B1 B2 B3 B4 B5 B6 B7 B8 B9 Ca Cb Cc Cd Ce Cf Cg Ch Ci Cj Ck Cl Cm Cn Co Cp Cq Cr Cs Ct Cu Cv Cw Cx Cy Cz C0 C1 C2 C3 C4 C5 C6 C7 C8 C9 Da Db Dc Dd De Df Dg Dh Di Dj Dk Dl Dm Dn Dp Dq Dr Ds Dt Du Dv Dw Dx Dy Dz D0 D1 D2 D3 D4 D5 D6 D7 D8 D9 Ea Eb Ec Ed Ee Ef Eg Eh Ei Ej Ek El Em En Eo Fp Fq Fr Fs Ft Fu Fv Fw Fx Fy Fz F0 F1 F2 F3 F4 F5 F6 F7 Ep Er Es Et Eu Ev Ew Ex Ey Ez E0 E1 E2 E3 E4 E5 E6 E7 E8 E9 Fa Fb Fc Fd Fe Ff Fg Fh Fi Fj Fk Fl Fm Fn : Value} (a b c x : BitVec 32) (BV : Nat) {w : World} (c0 : w.cell? ⟨BV, 0, none⟩ = some (.int .u32 (u a))) (c1 : w.cell? ⟨BV, 1, none⟩ = some (.int .u32 (u b))) (c2 : w.cell? ⟨BV, 2, none⟩ = some (.int .u32 (u c))) {Q : Exit → Act → World → Prop}
    (hQ : ∀ (F8 F9 Ga Gb Gc Gd Ge Gf Gg Gh Gi Gj Gk Gl Gm Gn Gp Gq Gr : Value), Q .normal ⟨#[
 Aa,Ab,Ac,Ad,Ae,Af,Ag,Ah,Ai,Aj,Ak,(.pointer (some ⟨BV,0,none⟩)),Al,Am,An,(.int .u32 (u (x))),.int .u32 (u (x + Sha.maj a b c)),Ao,Ap,Aq,Ar,As,Au,
 Av,Aw,Ax,Ay,Az,A0,A1,A2,A3,A4,A5,A6,A7,A8,A9,Ba,Bb,Bc,Bd,Be,Bf,Bg,Bh,Bi,Bj,Bk,Bl,Bm,Bn,Bo,Bp,Bq,Br,
 Bs,Bt,Bu,Bv,Bw,Bx,Bz,B0,B1,B2,B3,B4,B5,B6,B7,B8,B9,Ca,Cb,Cc,Cd,Ce,Cf,Cg,Ch,Ci,Cj,Ck,Cl,Cm,Cn,Co,Cp,
 Cq,Cr,Cs,Ct,Cu,Cv,Cw,Cx,Cy,Cz,C0,C1,C2,C3,C4,C5,C6,C7,C8,C9,Da,Db,Dc,Dd,De,Df,Dg,Dh,Di,Dj,
 Dk,Dl,Dm,Dn,Dp,Dq,Dr,Ds,Dt,Du,Dv,Dw,Dx,Dy,Dz,D0,D1,D2,D3,D4,D5,D6,D7,D8,D9,Ea,Eb,Ec,Ed,
 Ee,Ef,Eg,Eh,Ei,Ej,Ek,El,Em,En,Eo,F8,F9,Ga,Gb,Gc,Gd,Ge,Gf,Gg,Gh,Gi,Gj,Gk,Gl,Gm,Gn,Gp,Gq,
 Gr,Ep,Er,Es,Et,Eu,Ev,Ew,Ex,Ey,Ez,E0,E1,E2,E3,E4,E5,E6,E7,E8,E9,Fa,Fb,Fc,Fd,Fe,Ff,Fg,Fh,
    Fi, Fj, Fk, Fl, Fm, Fn], []⟩ (w)) :
    Code.wp Try.prog (blkReg 20) Q ⟨#[
 Aa,Ab,Ac,Ad,Ae,Af,Ag,Ah,Ai,Aj,Ak,(.pointer (some ⟨BV,0,none⟩)),Al,Am,An,(.int .u32 (u (x))),Fo,Ao,Ap,Aq,Ar,As,Au,Av,Aw,Ax,Ay,Az,
 A0,A1,A2,A3,A4,A5,A6,A7,A8,A9,Ba,Bb,Bc,Bd,Be,Bf,Bg,Bh,Bi,Bj,Bk,Bl,Bm,Bn,Bo,Bp,Bq,Br,Bs,Bt,Bu,Bv,Bw,
 Bx,Bz,B0,B1,B2,B3,B4,B5,B6,B7,B8,B9,Ca,Cb,Cc,Cd,Ce,Cf,Cg,Ch,Ci,Cj,Ck,Cl,Cm,Cn,Co,Cp,Cq,Cr,Cs,Ct,Cu,
 Cv,Cw,Cx,Cy,Cz,C0,C1,C2,C3,C4,C5,C6,C7,C8,C9,Da,Db,Dc,Dd,De,Df,Dg,Dh,Di,Dj,Dk,Dl,Dm,Dn,
 Dp,Dq,Dr,Ds,Dt,Du,Dv,Dw,Dx,Dy,Dz,D0,D1,D2,D3,D4,D5,D6,D7,D8,D9,Ea,Eb,Ec,Ed,Ee,Ef,Eg,Eh,
 Ei,Ej,Ek,El,Em,En,Eo,Fp,Fq,Fr,Fs,Ft,Fu,Fv,Fw,Fx,Fy,Fz,F0,F1,F2,F3,F4,F5,F6,F7,Ep,Er,Es,
 Et,Eu,Ev,Ew,Ex,Ey,Ez,E0,E1,E2,E3,E4,E5,E6,E7,E8,E9,Fa,Fb,Fc,Fd,Fe,Ff,Fg,Fh,Fi,Fj,Fk,Fl,
    Fm, Fn], []⟩ w := by
  conv => arg 2; whnf
  go_wp2
  exact hQ _ _ _ _ _ _ _ _ _ _ _ _ _ _ _ _ _ _ _

set_option maxRecDepth 100000 in
theorem blkUA {T : Array Value} {l0 l1 l2 l4 l5 l6 l7 l8 l9 l10 l12 l13 l14 l16 l17 : Value} (a b c x : BitVec 32) (BV : Nat) {w : World} (c0 : w.cell? ⟨BV, 0, none⟩ = some (.int .u32 (u a))) (c1 : w.cell? ⟨BV, 1, none⟩ = some (.int .u32 (u b))) (c2 : w.cell? ⟨BV, 2, none⟩ = some (.int .u32 (u c))) {Q : Exit → Act → World → Prop} (hL : blkLive T l0 l1 l2 l4 l5 l6 l7 l8 l9 l10 (.pointer (some ⟨BV, 0, none⟩)) l12 l13 l14 (.int .u32 (u (x))) l16 l17)
    (hQ : ∀ (T' : Array Value), blkLive T' l0 l1 l2 l4 l5 l6 l7 l8 l9 l10 (.pointer (some ⟨BV, 0, none⟩)) l12 l13 l14 (.int .u32 (u (x))) (.int .u32 (u (x + Sha.maj a b c))) l17 → Q .normal ⟨T', []⟩ (w)) : Code.wp Try.prog (blkReg 20) Q ⟨T, []⟩ w := by
  rw [blkOut T hL.size]
  rw [hL.s0, hL.s1, hL.s2, hL.s4, hL.s5, hL.s6, hL.s7, hL.s8, hL.s9, hL.s10, hL.s11, hL.s12, hL.s13, hL.s14, hL.s15, hL.s16, hL.s17]
  refine blkU a b c x BV c0 c1 c2 ?_
  intros
  exact hQ _ ⟨rfl, rfl, rfl, rfl, rfl, rfl, rfl, rfl, rfl, rfl, rfl, rfl, rfl, rfl, rfl, rfl, rfl, rfl⟩

end Go.Proofs.Ytpjfhbmegabafaa
