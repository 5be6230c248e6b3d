/- Regions of the reference's block256, one by one. Made by tools/regions.py.
   Regions of the reference's block256, one by one. Made by tools/regions.py.
   Regions of the reference's block256, one by one. Made by tools/regions.py. -/
import Derived.Test.YtpjfhbmegabafaaLBlkBase
import Derived.Test.YtpjfhbmegabafaaLMixWord
namespace Go.Proofs.Ytpjfhbmegabafaa
open Go.RowKit
attribute [local go_sem] u_add u_wrap_add u_or u_and u_xor u_shr3 u_shr10 u_not

set_option maxRecDepth 100000 in
set_option maxHeartbeats 2000000 in
theorem blkWord {Aa Ab Ac Ad Ae Af Ag Ah Ai Aj Ak Al Am An Ao Ap Aq Ar As Au Fc Fd Fe Ff Fg Fh Fi Fj Fk Fl Fm Fn Fo Fp Fq Fr Fs Ft Fu Fv Fw Fx Fy Fz F0 F1 F2 F3 F4 F5 F6 Av Aw Ax Ay Az A0 A1 A2 A3 A4 A5 A6 A7 A8 A9 Ba Bb Bc Bd Be Bf Bg Bh Bi Bj Bk Bl Bm Bn Bo Bp Bq Br Bs Bt Bu Bv Bw Bx Bz B0 B1 B2 B3 B4 B5 B6 B7 B8 B9 Ca Cb Cc Cd Ce Cf Cg Ch Ci Cj Ck Cl Cm Cn Co Cp Cq Cr Cs Ct Cu Cv Cw Cx Cy Cz C0 C1 C2 C3 C4 C5 C6 C7 C8 C9 Da Db Dc Dd De Df Dg Dh Di Dj Dk Dl Dm Dn Dp Dq Dr Ds Dt Du Dv Dw Dx Dy Dz D0 D1 D2 D3 D4 D5 D6 D7 D8 D9 Ea Eb Ec Ed Ee Ef Eg Eh Ei Ej Ek El Em En Eo Ep Er Es Et Eu Ev Ew Ex Ey Ez E0 E1 E2 E3 E4 E5 E6 E7 E8 E9 Fa Fb : Value} (x0 x1 x2 x3 : BitVec 32) (S : ByteArray) (BW k : Nat) (hk : k < 16) {w : World} (v0 : Value) (c0 : ∀ w', (Instr.index 9 (.string S) (.int .i64 (4 * (k : Int)))).run Try.prog w' = .ok (.int .u8 (u x0)) w') (c1 : ∀ w', (Instr.index 9 (.string S) (.int .i64 (4 * (k : Int) + 1))).run Try.prog w' = .ok (.int .u8 (u x1)) w') (c2 : ∀ w', (Instr.index 9 (.string S) (.int .i64 (4 * (k : Int) + 2))).run Try.prog w' = .ok (.int .u8 (u x2)) w') (c3 : ∀ w', (Instr.index 9 (.string S) (.int .i64 (4 * (k : Int) + 3))).run Try.prog w' = .ok (.int .u8 (u x3)) w')
    (b0 : 0 ≤ u x0 ∧ u x0 ≤ 255) (b1 : 0 ≤ u x1 ∧ u x1 ≤ 255) (b2 : 0 ≤ u x2 ∧ u x2 ≤ 255) (b3 : 0 ≤ u x3 ∧ u x3 ≤ 255) (cw : w.cell? ⟨BW, k, none⟩ = some v0) (cf : w.frozen? ⟨BW, k, none⟩ = false) {Q : Exit → Act → World → Prop}
    (hQ : ∀ (F7 F8 F9 Ga Gb Gc Gd Ge Gf Gg Gh Gi Gj Gk Gl Gm Gn Gp Gq Gr Gs Gt Gu Gv Gw Gx Gy Gz G0 G1 G2 : Value), Q .normal ⟨#[
 Aa,(.string S),Ab,Ac,Ad,Ae,(.pointer (some ⟨BW,0,none⟩)),(.int .i64 (k : Int)),Af,Ag,Ah,Ai,Aj,Ak,Al,Am,An,Ao,Ap,Aq,Ar,As,Au,F7,F8,F9,
 Ga,Gb,Gc,Gd,Ge,Gf,Gg,Gh,Gi,Gj,Gk,Gl,Gm,Gn,Gp,Gq,Gr,Gs,Gt,Gu,Gv,Gw,Gx,Gy,Gz,G0,G1,G2,Av,Aw,Ax,Ay,Az,
 A0,A1,A2,A3,A4,A5,A6,A7,A8,A9,Ba,Bb,Bc,Bd,Be,Bf,Bg,Bh,Bi,Bj,Bk,Bl,Bm,Bn,Bo,Bp,Bq,Br,Bs,Bt,Bu,Bv,Bw,
 Bx,Bz,B0,B1,B2,B3,B4,B5,B6,B7,B8,B9,Ca,Cb,Cc,Cd,Ce,Cf,Cg,Ch,Ci,Cj,Ck,Cl,Cm,Cn,Co,Cp,Cq,Cr,
 Cs,Ct,Cu,Cv,Cw,Cx,Cy,Cz,C0,C1,C2,C3,C4,C5,C6,C7,C8,C9,Da,Db,Dc,Dd,De,Df,Dg,Dh,Di,Dj,Dk,
 Dl,Dm,Dn,Dp,Dq,Dr,Ds,Dt,Du,Dv,Dw,Dx,Dy,Dz,D0,D1,D2,D3,D4,D5,D6,D7,D8,D9,Ea,Eb,Ec,Ed,Ee,
 Ef,Eg,Eh,Ei,Ej,Ek,El,Em,En,Eo,Ep,Er,Es,Et,Eu,Ev,Ew,Ex,Ey,Ez,E0,E1,E2,E3,E4,E5,E6,E7,E8,
    E9, Fa, Fb], []⟩ ((w.setCell ⟨BW, k, none⟩ (.int .u32 (u (x0 <<< 24 ||| x1 <<< 16 ||| x2 <<< 8 ||| x3)))).drew)) :
    Code.wp Try.prog (blkReg 6) Q ⟨#[
 Aa,(.string S),Ab,Ac,Ad,Ae,(.pointer (some ⟨BW,0,none⟩)),(.int .i64 (k : Int)),Af,Ag,Ah,Ai,Aj,Ak,Al,Am,An,Ao,Ap,Aq,Ar,As,Au,Fc,Fd,Fe,
 Ff,Fg,Fh,Fi,Fj,Fk,Fl,Fm,Fn,Fo,Fp,Fq,Fr,Fs,Ft,Fu,Fv,Fw,Fx,Fy,Fz,F0,F1,F2,F3,F4,F5,F6,Av,Aw,Ax,Ay,Az,
 A0,A1,A2,A3,A4,A5,A6,A7,A8,A9,Ba,Bb,Bc,Bd,Be,Bf,Bg,Bh,Bi,Bj,Bk,Bl,Bm,Bn,Bo,Bp,Bq,Br,Bs,Bt,Bu,Bv,Bw,
 Bx,Bz,B0,B1,B2,B3,B4,B5,B6,B7,B8,B9,Ca,Cb,Cc,Cd,Ce,Cf,Cg,Ch,Ci,Cj,Ck,Cl,Cm,Cn,Co,Cp,Cq,Cr,
 Cs,Ct,Cu,Cv,Cw,Cx,Cy,Cz,C0,C1,C2,C3,C4,C5,C6,C7,C8,C9,Da,Db,Dc,Dd,De,Df,Dg,Dh,Di,Dj,Dk,
 Dl,Dm,Dn,Dp,Dq,Dr,Ds,Dt,Du,Dv,Dw,Dx,Dy,Dz,D0,D1,D2,D3,D4,D5,D6,D7,D8,D9,Ea,Eb,Ec,Ed,Ee,
 Ef,Eg,Eh,Ei,Ej,Ek,El,Em,En,Eo,Ep,Er,Es,Et,Eu,Ev,Ew,Ex,Ey,Ez,E0,E1,E2,E3,E4,E5,E6,E7,E8,
    E9, Fa, Fb], []⟩ w := by
  conv => arg 2; whnf
  have s0 : IntKind.i64.wrap (4 * (k : Int)) = 4 * (k : Int) := IntWalk.i64_in _ (by omega)
  have p0 : 0 ≤ 4 * (k : Int) := by omega
  have q0 : 4 * (k : Int) < 64 := by omega
  have n0 : (4 * (k : Int)).toNat = 4 * k := by omega
  have s1 : IntKind.i64.wrap (4 * (k : Int) + 1) = 4 * (k : Int) + 1 := IntWalk.i64_in _ (by omega)
  have p1 : 0 ≤ 4 * (k : Int) + 1 := by omega
  have q1 : 4 * (k : Int) + 1 < 64 := by omega
  have n1 : (4 * (k : Int) + 1).toNat = 4 * k + 1 := by omega
  have s2 : IntKind.i64.wrap (4 * (k : Int) + 2) = 4 * (k : Int) + 2 := IntWalk.i64_in _ (by omega)
  have p2 : 0 ≤ 4 * (k : Int) + 2 := by omega
  have q2 : 4 * (k : Int) + 2 < 64 := by omega
  have n2 : (4 * (k : Int) + 2).toNat = 4 * k + 2 := by omega
  have s3 : IntKind.i64.wrap (4 * (k : Int) + 3) = 4 * (k : Int) + 3 := IntWalk.i64_in _ (by omega)
  have p3 : 0 ≤ 4 * (k : Int) + 3 := by omega
  have q3 : 4 * (k : Int) + 3 < 64 := by omega
  have n3 : (4 * (k : Int) + 3).toNat = 4 * k + 3 := by omega
  have q4 : (k : Int) < 64 := by omega
  go_still_tail 31, (by kernel_rfl)
  clear s0 s1 s2 s3 n0 n1 n2 n3
  change wpList _ _ _ _ _ w.drew
  go_wp2
  rw [u_byte24 x0 b0, u_byte16 x1 b1, u_byte8 x2 b2, u_or, u_or, u_or]
  exact hQ _ _ _ _ _ _ _ _ _ _ _ _ _ _ _ _ _ _ _ _ _ _ _ _ _ _ _ _ _ _ _

set_option maxRecDepth 100000 in
theorem blkWordA {T : Array Value} {l0 l2 l4 l5 l8 l9 l10 l11 l12 l13 l14 l15 l16 l17 : Value} (x0 x1 x2 x3 : BitVec 32) (S : ByteArray) (BW k : Nat) (hk : k < 16) {w : World} (v0 : Value) (c0 : ∀ w', (Instr.index 9 (.string S) (.int .i64 (4 * (k : Int)))).run Try.prog w' = .ok (.int .u8 (u x0)) w') (c1 : ∀ w', (Instr.index 9 (.string S) (.int .i64 (4 * (k : Int) + 1))).run Try.prog w' = .ok (.int .u8 (u x1)) w') (c2 : ∀ w', (Instr.index 9 (.string S) (.int .i64 (4 * (k : Int) + 2))).run Try.prog w' = .ok (.int .u8 (u x2)) w') (c3 : ∀ w', (Instr.index 9 (.string S) (.int .i64 (4 * (k : Int) + 3))).run Try.prog w' = .ok (.int .u8 (u x3)) w')
    (b0 : 0 ≤ u x0 ∧ u x0 ≤ 255) (b1 : 0 ≤ u x1 ∧ u x1 ≤ 255) (b2 : 0 ≤ u x2 ∧ u x2 ≤ 255) (b3 : 0 ≤ u x3 ∧ u x3 ≤ 255) (cw : w.cell? ⟨BW, k, none⟩ = some v0) (cf : w.frozen? ⟨BW, k, none⟩ = false) {Q : Exit → Act → World → Prop} (hL : blkLive T l0 (.string S) l2 l4 l5 (.pointer (some ⟨BW, 0, none⟩)) (.int .i64 (k : Int)) l8 l9 l10 l11 l12 l13 l14 l15 l16 l17)
    (hQ : ∀ (T' : Array Value), blkLive T' l0 (.string S) l2 l4 l5 (.pointer (some ⟨BW, 0, none⟩)) (.int .i64 (k : Int)) l8 l9 l10 l11 l12 l13 l14 l15 l16 l17 → Q .normal ⟨T', []⟩ ((w.setCell ⟨BW, k, none⟩ (.int .u32 (u (x0 <<< 24 ||| x1 <<< 16 ||| x2 <<< 8 ||| x3)))).drew)) : Code.wp Try.prog (blkReg 6) Q ⟨T, []⟩ w := by
  rw [blkOut T hL.size]
  rw [hL.s0, hL.s1, hL.s2, hL.s4, hL.s5, hL.s6, hL.s7, hL.s8, hL.s9, hL.s10, hL.s11, hL.s12, hL.s13, hL.s14, hL.s15, hL.s16, hL.s17]
  refine blkWord x0 x1 x2 x3 S BW k hk v0 c0 c1 c2 c3 b0 b1 b2 b3 cw cf ?_
  intros
  exact hQ _ ⟨rfl, rfl, rfl, rfl, rfl, rfl, rfl, rfl, rfl, rfl, rfl, rfl, rfl, rfl, rfl, rfl, rfl, rfl⟩

end Go.Proofs.Ytpjfhbmegabafaa
namespace Go.Proofs.Ytpjfhbmegabafaa
open Go.RowKit
attribute [local go_sem] u_add u_wrap_add u_or u_and u_xor u_shr3 u_shr10 u_not

set_option maxRecDepth 100000 in
set_option maxHeartbeats 2000000 in
theorem blkSched {Aa Ab Ac Ad Ae Af Ag Ah Ai Aj Ak Al Am An Ao Ap Aq Ar As Au Av Aw Ax Ay Az A0 A1 A2 A3 A4 A5 A6 A7 A8 A9 Ba Bb Bc Bd Be Bf Bg Bh Bi Bj Bk Bl Bm Bn Bo Bp Bq Br Bs Bt Bu Bv Bw Bx Bz B0 B1 B2 B3 B4 B5 B6 B7 B8 B9 Ca Cb Cc Cd Ce Cf Cg Ch Ci Cj Ck Cl Cm Cn Co Cp Cq Cr Fr Fs Ft Fu Fv Fw Fx Fy Fz F0 F1 F2 F3 F4 F5 Cs Ct Cu Cv Cw Cx Cy Cz C0 C1 C2 C3 C4 C5 C6 C7 C8 C9 Da Db Dc Dd De Df Dg Dh Di Dj Dk Dl Dm Dn Dp Dq Dr Ds Dt Du Dv Dw Dx Dy Dz D0 D1 D2 D3 D4 D5 D6 D7 D8 D9 Ea Eb Ec Ed Ee Ef Eg Eh Ei Ej Ek El Em En Eo Ep Er Es Et Eu Ev Ew Ex Ey Ez E0 E1 E2 E3 E4 E5 E6 E7 E8 E9 Fa Fb Fc Fd Fe Ff Fg Fh Fi Fj Fk Fl Fm Fn Fo Fp Fq : Value} (y16 a y7 b : BitVec 32) (BW k : Nat) (hk1 : 16 ≤ k) (hk : k < 64) {w : World} (v0 : Value) (c16 : w.cell? ⟨BW, k - 16, none⟩ = some (.int .u32 (u y16))) (c7 : w.cell? ⟨BW, k - 7, none⟩ = some (.int .u32 (u y7)))
    (cw : w.cell? ⟨BW, k, none⟩ = some v0) (cf : w.frozen? ⟨BW, k, none⟩ = false) {Q : Exit → Act → World → Prop}
    (hQ : ∀ (F6 F7 F8 F9 Ga Gb Gc Gd Ge Gf Gg Gh Gi Gj Gk : Value), Q .normal ⟨#[
 Aa,Ab,Ac,Ad,Ae,Af,(.pointer (some ⟨BW,0,none⟩)),Ag,(.int .i64 (k : Int)),(.int .u32 (u (a))),(.int .u32 (u (b))),Ah,Ai,Aj,Ak,Al,Am,An,Ao,Ap,Aq,Ar,
 As,Au,Av,Aw,Ax,Ay,Az,A0,A1,A2,A3,A4,A5,A6,A7,A8,A9,Ba,Bb,Bc,Bd,Be,Bf,Bg,Bh,Bi,Bj,Bk,Bl,Bm,Bn,Bo,Bp,
 Bq,Br,Bs,Bt,Bu,Bv,Bw,Bx,Bz,B0,B1,B2,B3,B4,B5,B6,B7,B8,B9,Ca,Cb,Cc,Cd,Ce,Cf,Cg,Ch,Ci,Cj,Ck,Cl,Cm,Cn,
 Co,Cp,Cq,Cr,F6,F7,F8,F9,Ga,Gb,Gc,Gd,Ge,Gf,Gg,Gh,Gi,Gj,Gk,Cs,Ct,Cu,Cv,Cw,Cx,Cy,Cz,C0,C1,C2,
 C3,C4,C5,C6,C7,C8,C9,Da,Db,Dc,Dd,De,Df,Dg,Dh,Di,Dj,Dk,Dl,Dm,Dn,Dp,Dq,Dr,Ds,Dt,Du,Dv,Dw,
 Dx,Dy,Dz,D0,D1,D2,D3,D4,D5,D6,D7,D8,D9,Ea,Eb,Ec,Ed,Ee,Ef,Eg,Eh,Ei,Ej,Ek,El,Em,En,Eo,Ep,
 Er,Es,Et,Eu,Ev,Ew,Ex,Ey,Ez,E0,E1,E2,E3,E4,E5,E6,E7,E8,E9,Fa,Fb,Fc,Fd,Fe,Ff,Fg,Fh,Fi,Fj,
 Fk,Fl,Fm,Fn,Fo,Fp,Fq],[]⟩ ((w.setCell ⟨BW,k,none⟩ (.int .u32 (u (y16 + a + y7 + b)))).drew)) :
    Code.wp Try.prog (blkReg 12) Q ⟨#[
 Aa,Ab,Ac,Ad,Ae,Af,(.pointer (some ⟨BW,0,none⟩)),Ag,(.int .i64 (k : Int)),(.int .u32 (u (a))),(.int .u32 (u (b))),Ah,Ai,Aj,Ak,Al,Am,An,Ao,Ap,Aq,Ar,
 As,Au,Av,Aw,Ax,Ay,Az,A0,A1,A2,A3,A4,A5,A6,A7,A8,A9,Ba,Bb,Bc,Bd,Be,Bf,Bg,Bh,Bi,Bj,Bk,Bl,Bm,Bn,Bo,Bp,
 Bq,Br,Bs,Bt,Bu,Bv,Bw,Bx,Bz,B0,B1,B2,B3,B4,B5,B6,B7,B8,B9,Ca,Cb,Cc,Cd,Ce,Cf,Cg,Ch,Ci,Cj,Ck,Cl,Cm,Cn,
 Co,Cp,Cq,Cr,Fr,Fs,Ft,Fu,Fv,Fw,Fx,Fy,Fz,F0,F1,F2,F3,F4,F5,Cs,Ct,Cu,Cv,Cw,Cx,Cy,Cz,C0,C1,C2,
 C3,C4,C5,C6,C7,C8,C9,Da,Db,Dc,Dd,De,Df,Dg,Dh,Di,Dj,Dk,Dl,Dm,Dn,Dp,Dq,Dr,Ds,Dt,Du,Dv,Dw,
 Dx,Dy,Dz,D0,D1,D2,D3,D4,D5,D6,D7,D8,D9,Ea,Eb,Ec,Ed,Ee,Ef,Eg,Eh,Ei,Ej,Ek,El,Em,En,Eo,Ep,
 Er,Es,Et,Eu,Ev,Ew,Ex,Ey,Ez,E0,E1,E2,E3,E4,E5,E6,E7,E8,E9,Fa,Fb,Fc,Fd,Fe,Ff,Fg,Fh,Fi,Fj,
    Fk, Fl, Fm, Fn, Fo, Fp, Fq], []⟩ w := by
  conv => arg 2; whnf
  have q4 : (k : Int) < 64 := by omega
  have s16 : IntKind.i64.wrap ((k : Int) - 16) = (k : Int) - 16 := IntWalk.i64_in _ (by omega)
  have p16 : 0 ≤ (k : Int) - 16 := by omega
  have r16 : 16 ≤ (k : Int) := by omega
  have q16 : (k : Int) - 16 < 64 := by omega
  have t16 : (k : Int) < 80 := by omega
  have n16 : ((k : Int) - 16).toNat = k - 16 := by omega
  have s7 : IntKind.i64.wrap ((k : Int) - 7) = (k : Int) - 7 := IntWalk.i64_in _ (by omega)
  have p7 : 0 ≤ (k : Int) - 7 := by omega
  have r7 : 7 ≤ (k : Int) := by omega
  have q7 : (k : Int) - 7 < 64 := by omega
  have t7 : (k : Int) < 71 := by omega
  have n7 : ((k : Int) - 7).toNat = k - 7 := by omega
  go_still_tail 15, (by kernel_rfl)
  clear s16 s7 n16 n7
  change wpList _ _ _ _ _ w.drew
  go_wp2
  exact hQ _ _ _ _ _ _ _ _ _ _ _ _ _ _ _

set_option maxRecDepth 100000 in
theorem blkSchedA {T : Array Value} {l0 l1 l2 l4 l5 l7 l11 l12 l13 l14 l15 l16 l17 : Value} (y16 a y7 b : BitVec 32) (BW k : Nat) (hk1 : 16 ≤ k) (hk : k < 64) {w : World} (v0 : Value) (c16 : w.cell? ⟨BW, k - 16, none⟩ = some (.int .u32 (u y16))) (c7 : w.cell? ⟨BW, k - 7, none⟩ = some (.int .u32 (u y7)))
    (cw : w.cell? ⟨BW, k, none⟩ = some v0) (cf : w.frozen? ⟨BW, k, none⟩ = false) {Q : Exit → Act → World → Prop} (hL : blkLive T l0 l1 l2 l4 l5 (.pointer (some ⟨BW, 0, none⟩)) l7 (.int .i64 (k : Int)) (.int .u32 (u (a))) (.int .u32 (u (b))) l11 l12 l13 l14 l15 l16 l17)
    (hQ : ∀ (T' : Array Value), blkLive T' l0 l1 l2 l4 l5 (.pointer (some ⟨BW, 0, none⟩)) l7 (.int .i64 (k : Int)) (.int .u32 (u (a))) (.int .u32 (u (b))) l11 l12 l13 l14 l15 l16 l17 → Q .normal ⟨T', []⟩ ((w.setCell ⟨BW, k, none⟩ (.int .u32 (u (y16 + a + y7 + b)))).drew)) : Code.wp Try.prog (blkReg 12) Q ⟨T, []⟩ w := by
  rw [blkOut T hL.size]
  rw [hL.s0, hL.s1, hL.s2, hL.s4, hL.s5, hL.s6, hL.s7, hL.s8, hL.s9, hL.s10, hL.s11, hL.s12, hL.s13, hL.s14, hL.s15, hL.s16, hL.s17]
  refine blkSched y16 a y7 b BW k hk1 hk v0 c16 c7 cw cf ?_
  intros
  exact hQ _ ⟨rfl, rfl, rfl, rfl, rfl, rfl, rfl, rfl, rfl, rfl, rfl, rfl, rfl, rfl, rfl, rfl, rfl, rfl⟩

end Go.Proofs.Ytpjfhbmegabafaa
namespace Go.Proofs.Ytpjfhbmegabafaa
open Go.RowKit
attribute [local go_sem] u_add u_wrap_add u_or u_and u_xor u_shr3 u_shr10 u_not

set_option maxRecDepth 100000 in
set_option maxHeartbeats 2000000 in
theorem blkAdd {Aa Ab Ac Ad Ae Af Ag Ah Ai Aj Ak Al Am An Ao Ap Aq Ar As Au Av Aw Ax Ay Az A0 A1 A2 A3 A4 A5 A6 A7 A8 A9 Ba Bb Bc Bd Be Bf Bg Bh Bi Bj Bk Bl Bm Bn Bo Bp Bq Br Bs Bt Bu Bv Bw Bx Bz B0 B1 B3 B4 B5 B6 B7 B8 B9 Ca Cb Cc Cd Ce Cf Cg Ch Ci Cj Ck Cl Cm Cn Co Cp Cq Cr Cs Ct Cu Cv Cw Cx Cy Cz C0 C1 C2 C3 C4 C5 C6 C7 C8 C9 Da Db Dc Dd De Df Dg Dh Di Dj Dk Dl Dm Dn Dp Dq Dr Ds Dt Du Dv Dw Dx Dy Dz D0 D1 D2 D3 D4 D5 D6 D7 D8 D9 Ea Eb Ec Ed Ee Ef Eg Eh Ei Ej Ek El Em En Eo Ep Er Es Et Eu Ev Ew Ex Ey Ez E0 E1 E2 E3 E4 E5 E6 E7 E8 E9 Fa Fb Fc Fd Fe Ff Fg Fh Fi Fj Fk Fl Fm Fn Fo Fp Fq Fr Fs Ft Fu Fv Fw Fx Fz F0 F1 F2 F3 F4 F5 F6 F7 Fy : Value} (x y : BitVec 32) (B2 BV k : Nat) (hk : k < 8) {w : World} (c : w.cell? ⟨B2, k, none⟩ = some (.int .u32 (u x))) (d : w.cell? ⟨BV, k, none⟩ = some (.int .u32 (u y))) (cf : w.frozen? ⟨B2, k, none⟩ = false) {Q : Exit → Act → World → Prop}
    (hQ : ∀ (F8 F9 Ga Gb Gc Gd Ge Gf Gg : Value), Q .normal ⟨#[
 Aa,Ab,(.pointer (some ⟨B2,0,none⟩)),Ac,Ad,Ae,Af,Ag,Ah,Ai,Aj,(.pointer (some ⟨BV,0,none⟩)),Ak,Al,Am,An,Ao,(.int .i64 (k : Int)),Ap,Aq,Ar,As,Au,
 Av,Aw,Ax,Ay,Az,A0,A1,A2,A3,A4,A5,A6,A7,A8,A9,Ba,Bb,Bc,Bd,Be,Bf,Bg,Bh,Bi,Bj,Bk,Bl,Bm,Bn,Bo,Bp,Bq,Br,
 Bs,Bt,Bu,Bv,Bw,Bx,Bz,B0,B1,B3,B4,B5,B6,B7,B8,B9,Ca,Cb,Cc,Cd,Ce,Cf,Cg,Ch,Ci,Cj,Ck,Cl,Cm,Cn,Co,Cp,Cq,
 Cr,Cs,Ct,Cu,Cv,Cw,Cx,Cy,Cz,C0,C1,C2,C3,C4,C5,C6,C7,C8,C9,Da,Db,Dc,Dd,De,Df,Dg,Dh,Di,Dj,Dk,
 Dl,Dm,Dn,Dp,Dq,Dr,Ds,Dt,Du,Dv,Dw,Dx,Dy,Dz,D0,D1,D2,D3,D4,D5,D6,D7,D8,D9,Ea,Eb,Ec,Ed,Ee,
 Ef,Eg,Eh,Ei,Ej,Ek,El,Em,En,Eo,Ep,Er,Es,Et,Eu,Ev,Ew,Ex,Ey,Ez,E0,E1,E2,E3,E4,E5,E6,E7,E8,
 E9,Fa,Fb,Fc,Fd,Fe,Ff,Fg,Fh,Fi,Fj,Fk,Fl,Fm,Fn,Fo,Fp,Fq,Fr,Fs,Ft,Fu,Fv,Fw,Fx,F8,F9,Ga,Gb,
    Gc, Gd, Ge, Gf, Gg, Fy], []⟩ ((w.setCell ⟨B2, k, none⟩ (.int .u32 (u (x + y)))).drew)) :
    Code.wp Try.prog (blkReg 25) Q ⟨#[
 Aa,Ab,(.pointer (some ⟨B2,0,none⟩)),Ac,Ad,Ae,Af,Ag,Ah,Ai,Aj,(.pointer (some ⟨BV,0,none⟩)),Ak,Al,Am,An,Ao,(.int .i64 (k : Int)),Ap,Aq,Ar,As,Au,
 Av,Aw,Ax,Ay,Az,A0,A1,A2,A3,A4,A5,A6,A7,A8,A9,Ba,Bb,Bc,Bd,Be,Bf,Bg,Bh,Bi,Bj,Bk,Bl,Bm,Bn,Bo,Bp,Bq,Br,
 Bs,Bt,Bu,Bv,Bw,Bx,Bz,B0,B1,B3,B4,B5,B6,B7,B8,B9,Ca,Cb,Cc,Cd,Ce,Cf,Cg,Ch,Ci,Cj,Ck,Cl,Cm,Cn,Co,Cp,Cq,
 Cr,Cs,Ct,Cu,Cv,Cw,Cx,Cy,Cz,C0,C1,C2,C3,C4,C5,C6,C7,C8,C9,Da,Db,Dc,Dd,De,Df,Dg,Dh,Di,Dj,Dk,
 Dl,Dm,Dn,Dp,Dq,Dr,Ds,Dt,Du,Dv,Dw,Dx,Dy,Dz,D0,D1,D2,D3,D4,D5,D6,D7,D8,D9,Ea,Eb,Ec,Ed,Ee,
 Ef,Eg,Eh,Ei,Ej,Ek,El,Em,En,Eo,Ep,Er,Es,Et,Eu,Ev,Ew,Ex,Ey,Ez,E0,E1,E2,E3,E4,E5,E6,E7,E8,
 E9,Fa,Fb,Fc,Fd,Fe,Ff,Fg,Fh,Fi,Fj,Fk,Fl,Fm,Fn,Fo,Fp,Fq,Fr,Fs,Ft,Fu,Fv,Fw,Fx,Fz,F0,F1,F2,
    F3, F4, F5, F6, F7, Fy], []⟩ w := by
  conv => arg 2; whnf
  have q4 : (k : Int) < 8 := by omega
  go_still_tail 9, (by kernel_rfl)
  change wpList _ _ _ _ _ w.drew
  go_wp2
  exact hQ _ _ _ _ _ _ _ _ _

set_option maxRecDepth 100000 in
theorem blkAddA {T : Array Value} {l0 l1 l4 l5 l6 l7 l8 l9 l10 l12 l13 l14 l15 l16 : Value} (x y : BitVec 32) (B2 BV k : Nat) (hk : k < 8) {w : World} (c : w.cell? ⟨B2, k, none⟩ = some (.int .u32 (u x))) (d : w.cell? ⟨BV, k, none⟩ = some (.int .u32 (u y))) (cf : w.frozen? ⟨B2, k, none⟩ = false) {Q : Exit → Act → World → Prop} (hL : blkLive T l0 l1 (.pointer (some ⟨B2, 0, none⟩)) l4 l5 l6 l7 l8 l9 l10 (.pointer (some ⟨BV, 0, none⟩)) l12 l13 l14 l15 l16 (.int .i64 (k : Int)))
 (hQ : ∀ (T' : Array Value),blkLive T' l0 l1 (.pointer (some ⟨B2,0,none⟩)) l4 l5 l6 l7 l8 l9 l10 (.pointer (some ⟨BV,0,none⟩)) l12 l13 l14 l15 l16 (.int .i64 (k : Int)) → Q .normal ⟨T',[]⟩ ((w.setCell ⟨B2,k,none⟩ (.int .u32 (u (x + y)))).drew)) : Code.wp Try.prog (blkReg 25) Q ⟨T,[]⟩ w := by
  rw [blkOut T hL.size]
  rw [hL.s0, hL.s1, hL.s2, hL.s4, hL.s5, hL.s6, hL.s7, hL.s8, hL.s9, hL.s10, hL.s11, hL.s12, hL.s13, hL.s14, hL.s15, hL.s16, hL.s17]
  refine blkAdd x y B2 BV k hk c d cf ?_
  intros
  exact hQ _ ⟨rfl, rfl, rfl, rfl, rfl, rfl, rfl, rfl, rfl, rfl, rfl, rfl, rfl, rfl, rfl, rfl, rfl, rfl⟩

end Go.Proofs.Ytpjfhbmegabafaa
