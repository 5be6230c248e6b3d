/- Regions of the reference's block256, one by one. Made by tools/regions.py. -/
import Derived.Test.YtpjfhbmegabafaaLBlkBase
import Derived.Test.YtpjfhbmegabafaaLShaDig
namespace Go.Proofs.Ytpjfhbmegabafaa
open Go.RowKit
attribute [local go_sem] u_add u_wrap_add u_or u_and u_xor u_shr3 u_shr10 u_not
def z8 : Array Value := Array.replicate 8 (.int .u32 0)
theorem z8_le : 0 + 8 ≤ z8.toList.length := by decide

set_option maxRecDepth 100000 in
set_option maxHeartbeats 2000000 in
theorem blkFirst {Aa Gb Ab F9 Fh Fi Ac Ad Ae Af Ga Ag Ah F6 Ai F7 Aj Fj Ak Al Am An Ao Ap Aq Ar As Au Av Aw Ax Ay Az A0 A1 A2 A3 A4 A5 A6 A7 A8 A9 Ba Bb Bc Bd Be Bf Bg Bh Bi Bj Bk Bl Bm Bn Bo Bp Bq Br Bs Bt Bu Bv Bw Bx Bz B0 B1 B3 B5 B6 B7 B8 B9 Ca Cb Cc Cd Ce Cf Cg Ch Ci Cj Ck Cl Cm Cn Co Cp Cq Cr Cs Ct Cu Cv Cw Cx Cy Cz C0 C1 C2 C3 Fk C4 C5 C6 C7 C8 C9 Da Db Dc Dd De Df Dg Dh Di Dj Dk Dl Dm Dn Dp Dq Dr Ds Dt Du Dv Dw Dx Dy Dz D0 D1 D2 D3 D4 D5 D6 D7 D8 D9 Ea Eb Ec Ed Ee Ef Eg Eh Ei Ej Ek El Em En Eo Ep Er Es Et Eu Ev Ew Ex Ey Ez E0 E1 E2 E3 Fl Fm Fn Fo Fp Fq Fr Fs Ft Fu Fv Fw Fx Fy Fz F0 F1 F2 F3 F4 E4 E5 E6 E7 E8 E9 Fa Fb Fc Fd Fe Ff Fg F5 : Value} (s : Sha.S8) {w : World} {Q : Exit → Act → World → Prop}
    (hQ : Q .normal ⟨#[
 (s8Agg s),Aa,.pointer (some ⟨w.heap.size,0,none⟩),Ab,.pointer (some ⟨w.heap.size + 1,0,none⟩),Fh,Fi,Ac,Ad,Ae,Af,Ga,Ag,Ah,F6,Ai,F7,Aj,Fj,Ak,Al,Am,
 An,Ao,Ap,Aq,Ar,As,Au,Av,Aw,Ax,Ay,Az,A0,A1,A2,A3,A4,A5,A6,A7,A8,A9,Ba,Bb,Bc,Bd,Be,Bf,Bg,Bh,Bi,Bj,Bk,
 Bl,Bm,Bn,Bo,Bp,Bq,Br,Bs,Bt,Bu,Bv,Bw,Bx,Bz,B0,B1,B3,B5,B6,B7,B8,B9,Ca,Cb,Cc,Cd,Ce,Cf,Cg,Ch,Ci,Cj,Ck,
 Cl,Cm,Cn,Co,Cp,Cq,Cr,Cs,Ct,Cu,Cv,Cw,Cx,Cy,Cz,C0,C1,C2,C3,Fk,C4,C5,C6,C7,C8,C9,Da,Db,Dc,Dd,
 De,Df,Dg,Dh,Di,Dj,Dk,Dl,Dm,Dn,Dp,Dq,Dr,Ds,Dt,Du,Dv,Dw,Dx,Dy,Dz,D0,D1,D2,D3,D4,D5,D6,D7,
 D8,D9,Ea,Eb,Ec,Ed,Ee,Ef,Eg,Eh,Ei,Ej,Ek,El,Em,En,Eo,Ep,Er,Es,Et,Eu,Ev,Ew,Ex,Ey,Ez,E0,E1,
 E2,E3,Fl,Fm,Fn,Fo,Fp,Fq,Fr,Fs,Ft,Fu,Fv,Fw,Fx,Fy,Fz,F0,F1,F2,F3,F4,E4,E5,E6,E7,E8,E9,Fa,
    Fb, Fc, Fd, Fe, Ff, Fg, F5], []⟩ ((w.alloc (.cells (wordCells s.list).toArray 162)).alloc (.cells (Array.replicate 8 (.int .u32 0)) 162))) :
    Code.wp Try.prog (blkReg 0) Q ⟨#[
 (s8Agg s),Aa,Gb,Ab,F9,Fh,Fi,Ac,Ad,Ae,Af,Ga,Ag,Ah,F6,Ai,F7,Aj,Fj,Ak,Al,Am,An,Ao,Ap,Aq,Ar,As,Au,Av,Aw,Ax,Ay,Az,
 A0,A1,A2,A3,A4,A5,A6,A7,A8,A9,Ba,Bb,Bc,Bd,Be,Bf,Bg,Bh,Bi,Bj,Bk,Bl,Bm,Bn,Bo,Bp,Bq,Br,Bs,Bt,Bu,Bv,Bw,
 Bx,Bz,B0,B1,B3,B5,B6,B7,B8,B9,Ca,Cb,Cc,Cd,Ce,Cf,Cg,Ch,Ci,Cj,Ck,Cl,Cm,Cn,Co,Cp,Cq,Cr,Cs,Ct,Cu,Cv,Cw,
 Cx,Cy,Cz,C0,C1,C2,C3,Fk,C4,C5,C6,C7,C8,C9,Da,Db,Dc,Dd,De,Df,Dg,Dh,Di,Dj,Dk,Dl,Dm,Dn,Dp,
 Dq,Dr,Ds,Dt,Du,Dv,Dw,Dx,Dy,Dz,D0,D1,D2,D3,D4,D5,D6,D7,D8,D9,Ea,Eb,Ec,Ed,Ee,Ef,Eg,Eh,Ei,
 Ej,Ek,El,Em,En,Eo,Ep,Er,Es,Et,Eu,Ev,Ew,Ex,Ey,Ez,E0,E1,E2,E3,Fl,Fm,Fn,Fo,Fp,Fq,Fr,Fs,Ft,
 Fu,Fv,Fw,Fx,Fy,Fz,F0,F1,F2,F3,F4,E4,E5,E6,E7,E8,E9,Fa,Fb,Fc,Fd,Fe,Ff,Fg,F5],[]⟩ w := by
  conv => arg 2; whnf
  go_wp2_with (first
    | (refine wpList_run (o := ⟨some 2, _, _, _, _, _⟩) rfl (.pointer (some ⟨w.heap.size, 0, none⟩)) (w.alloc (.cells (wordCells s.list).toArray 162)) (by kernel_rfl) ?_)
    | (refine wpList_run (o := ⟨some 4, _, _, _, _, _⟩) rfl (.pointer (some ⟨w.heap.size + 1, 0, none⟩)) ((w.alloc (.cells (wordCells s.list).toArray 162)).alloc (.cells (Array.replicate 8 (.int .u32 0)) 162)) ?_ ?_
       · rw [← heap_push]; kernel_rfl))
  exact hQ 

set_option maxRecDepth 100000 in
set_option maxHeartbeats 2000000 in
theorem blkTable {F8 Aa Gb Ab F9 Fh Fi Ac Ad Ae Af Ga Ag Ah F6 Ai F7 Aj Fj Ak Al Am An Ao Ap Aq Ar As Au Av Aw Ax Ay Az A0 A1 A2 A3 A4 A5 A6 A7 A8 A9 Ba Bb Bc Bd Be Bf Bg Bh Bi Bj Bk Bl Bm Bn Bo Bp Bq Br Bs Bt Bu Bv Bw Bx Bz B0 B1 B3 B5 B6 B7 B8 B9 Ca Cb Cc Cd Ce Cf Cg Ch Ci Cj Ck Cl Cm Cn Co Cp Cq Cr Cs Ct Cu Cv Cw Cx Cy Cz C0 C1 C2 C3 Fk C4 C5 C6 C7 C8 C9 Da Db Dc Dd De Df Dg Dh Di Dj Dk Dl Dm Dn Dp Dq Dr Ds Dt Du Dv Dw Dx Dy Dz D0 D1 D2 D3 D4 D5 D6 D7 D8 D9 Ea Eb Ec Ed Ee Ef Eg Eh Ei Ej Ek El Em En Eo Ep Er Es Et Eu Ev Ew Ex Ey Ez E0 E1 E2 E3 Fl Fm Fn Fo Fp Fq Fr Fs Ft Fu Fv Fw Fx Fy Fz F0 F1 F2 F3 F4 E4 E5 E6 E7 E8 E9 Fa Fb Fc Fd Fe Ff Fg F5 : Value} {w : World} {Q : Exit → Act → World → Prop}
    (hQ : ∀ (Gc : Value) (BT : Nat) (w' : World) (_ : w.heap.size ≤ BT) (_ : Holds w' BT 179 (wordCells Sha.ks)) (_ : Below w.heap.size w w'), Q .normal ⟨#[
 F8,Aa,Gb,Ab,F9,.pointer (some ⟨BT,0,none⟩),Fi,Ac,Ad,Ae,Af,Ga,Ag,Ah,F6,Ai,F7,Aj,Gc,Ak,Al,Am,An,Ao,Ap,Aq,Ar,As,Au,Av,Aw,
 Ax,Ay,Az,A0,A1,A2,A3,A4,A5,A6,A7,A8,A9,Ba,Bb,Bc,Bd,Be,Bf,Bg,Bh,Bi,Bj,Bk,Bl,Bm,Bn,Bo,Bp,Bq,Br,Bs,Bt,
 Bu,Bv,Bw,Bx,Bz,B0,B1,B3,B5,B6,B7,B8,B9,Ca,Cb,Cc,Cd,Ce,Cf,Cg,Ch,Ci,Cj,Ck,Cl,Cm,Cn,Co,Cp,Cq,Cr,Cs,Ct,
 Cu,Cv,Cw,Cx,Cy,Cz,C0,C1,C2,C3,Fk,C4,C5,C6,C7,C8,C9,Da,Db,Dc,Dd,De,Df,Dg,Dh,Di,Dj,Dk,Dl,
 Dm,Dn,Dp,Dq,Dr,Ds,Dt,Du,Dv,Dw,Dx,Dy,Dz,D0,D1,D2,D3,D4,D5,D6,D7,D8,D9,Ea,Eb,Ec,Ed,Ee,Ef,
 Eg,Eh,Ei,Ej,Ek,El,Em,En,Eo,Ep,Er,Es,Et,Eu,Ev,Ew,Ex,Ey,Ez,E0,E1,E2,E3,Fl,Fm,Fn,Fo,Fp,Fq,
 Fr,Fs,Ft,Fu,Fv,Fw,Fx,Fy,Fz,F0,F1,F2,F3,F4,E4,E5,E6,E7,E8,E9,Fa,Fb,Fc,Fd,Fe,Ff,Fg,F5],[]⟩ (w')) :
    Code.wp Try.prog (blkReg 1) Q ⟨#[
 F8,Aa,Gb,Ab,F9,Fh,Fi,Ac,Ad,Ae,Af,Ga,Ag,Ah,F6,Ai,F7,Aj,Fj,Ak,Al,Am,An,Ao,Ap,Aq,Ar,As,Au,Av,Aw,Ax,Ay,Az,A0,
 A1,A2,A3,A4,A5,A6,A7,A8,A9,Ba,Bb,Bc,Bd,Be,Bf,Bg,Bh,Bi,Bj,Bk,Bl,Bm,Bn,Bo,Bp,Bq,Br,Bs,Bt,Bu,Bv,Bw,Bx,
 Bz,B0,B1,B3,B5,B6,B7,B8,B9,Ca,Cb,Cc,Cd,Ce,Cf,Cg,Ch,Ci,Cj,Ck,Cl,Cm,Cn,Co,Cp,Cq,Cr,Cs,Ct,Cu,Cv,Cw,Cx,
 Cy,Cz,C0,C1,C2,C3,Fk,C4,C5,C6,C7,C8,C9,Da,Db,Dc,Dd,De,Df,Dg,Dh,Di,Dj,Dk,Dl,Dm,Dn,Dp,Dq,
 Dr,Ds,Dt,Du,Dv,Dw,Dx,Dy,Dz,D0,D1,D2,D3,D4,D5,D6,D7,D8,D9,Ea,Eb,Ec,Ed,Ee,Ef,Eg,Eh,Ei,Ej,
 Ek,El,Em,En,Eo,Ep,Er,Es,Et,Eu,Ev,Ew,Ex,Ey,Ez,E0,E1,E2,E3,Fl,Fm,Fn,Fo,Fp,Fq,Fr,Fs,Ft,Fu,
 Fv,Fw,Fx,Fy,Fz,F0,F1,F2,F3,F4,E4,E5,E6,E7,E8,E9,Fa,Fb,Fc,Fd,Fe,Ff,Fg,F5],[]⟩ w := by
  conv => arg 2; whnf
  go_wp2_with (first
    | (refine wpList_run (o := ⟨some 5, _, _, _, _, _⟩) rfl (.pointer (some ⟨w.heap.size, 0, none⟩)) (w.alloc (.cells z64 179)) (by kernel_rfl) ?_)
    | (refine wpList_store_mid rfl 179 (.tmp 5) (.tmp 18) rfl w.heap.size 0 (wordCells Sha.ks).toArray rfl rfl (by exact (Holds.new _ _ _).there 0 64 z64_le) (by exact Try.sizeKs) (by exact all_oneCell_toArray (wordCells_one _)) ?_; generalize hW2 : World.setCells _ _ _ _ = W2))
  have hT0 : Holds W2 w.heap.size 179 (wordCells Sha.ks) := by
    have h1 := Holds.put (Holds.new w 179 z64) 0 (wordCells Sha.ks) (by decide)
    rw [put_all _ _ (by decide), hW2] at h1
    exact h1
  have hb2 : Below w.heap.size w W2 := by
    rw [← hW2]
    exact below_setCells ((Below.refl _ _).alloc (Nat.le_refl _) _) _ _ _ (Nat.le_refl _)
  exact hQ _ _ _ (Nat.le_refl _) hT0 hb2

set_option maxRecDepth 100000 in
set_option maxHeartbeats 2000000 in
theorem blkZero {F8 Aa Gb Ab F9 Fh Fi Ac Ad Ae Af Ga Ag Ah F6 Ai F7 Aj Fj Ak Al Am An Ao Ap Aq Ar As Au Av Aw Ax Ay Az A0 A1 A2 A3 A4 A5 A6 A7 A8 A9 Ba Bb Bc Bd Be Bf Bg Bh Bi Bj Bk Bl Bm Bn Bo Bp Bq Br Bs Bt Bu Bv Bw Bx Bz B0 B1 B3 B5 B6 B7 B8 B9 Ca Cb Cc Cd Ce Cf Cg Ch Ci Cj Ck Cl Cm Cn Co Cp Cq Cr Cs Ct Cu Cv Cw Cx Cy Cz C0 C1 C2 C3 Fk C4 C5 C6 C7 C8 C9 Da Db Dc Dd De Df Dg Dh Di Dj Dk Dl Dm Dn Dp Dq Dr Ds Dt Du Dv Dw Dx Dy Dz D0 D1 D2 D3 D4 D5 D6 D7 D8 D9 Ea Eb Ec Ed Ee Ef Eg Eh Ei Ej Ek El Em En Eo Ep Er Es Et Eu Ev Ew Ex Ey Ez E0 E1 E2 E3 Fl Fm Fn Fo Fp Fq Fr Fs Ft Fu Fv Fw Fx Fy Fz F0 F1 F2 F3 F4 E4 E5 E6 E7 E8 E9 Fa Fb Fc Fd Fe Ff Fg F5 : Value} {w : World} {Q : Exit → Act → World → Prop}
    (hQ : Q .normal ⟨#[
 F8,Aa,Gb,Ab,F9,Fh,.pointer (some ⟨w.heap.size,0,none⟩),Ac,Ad,Ae,Af,Ga,Ag,Ah,F6,Ai,F7,Aj,Fj,Ak,Al,Am,An,Ao,Ap,Aq,Ar,As,Au,
 Av,Aw,Ax,Ay,Az,A0,A1,A2,A3,A4,A5,A6,A7,A8,A9,Ba,Bb,Bc,Bd,Be,Bf,Bg,Bh,Bi,Bj,Bk,Bl,Bm,Bn,Bo,Bp,Bq,Br,
 Bs,Bt,Bu,Bv,Bw,Bx,Bz,B0,B1,B3,B5,B6,B7,B8,B9,Ca,Cb,Cc,Cd,Ce,Cf,Cg,Ch,Ci,Cj,Ck,Cl,Cm,Cn,Co,Cp,Cq,Cr,
 Cs,Ct,Cu,Cv,Cw,Cx,Cy,Cz,C0,C1,C2,C3,Fk,C4,C5,C6,C7,C8,C9,Da,Db,Dc,Dd,De,Df,Dg,Dh,Di,Dj,
 Dk,Dl,Dm,Dn,Dp,Dq,Dr,Ds,Dt,Du,Dv,Dw,Dx,Dy,Dz,D0,D1,D2,D3,D4,D5,D6,D7,D8,D9,Ea,Eb,Ec,Ed,
 Ee,Ef,Eg,Eh,Ei,Ej,Ek,El,Em,En,Eo,Ep,Er,Es,Et,Eu,Ev,Ew,Ex,Ey,Ez,E0,E1,E2,E3,Fl,Fm,Fn,Fo,
 Fp,Fq,Fr,Fs,Ft,Fu,Fv,Fw,Fx,Fy,Fz,F0,F1,F2,F3,F4,E4,E5,E6,E7,E8,E9,Fa,Fb,Fc,Fd,Fe,Ff,Fg,
    F5], []⟩ (w.alloc (.cells z64 179))) :
    Code.wp Try.prog (blkReg 2) Q ⟨#[
 F8,Aa,Gb,Ab,F9,Fh,Fi,Ac,Ad,Ae,Af,Ga,Ag,Ah,F6,Ai,F7,Aj,Fj,Ak,Al,Am,An,Ao,Ap,Aq,Ar,As,Au,Av,Aw,Ax,Ay,Az,A0,
 A1,A2,A3,A4,A5,A6,A7,A8,A9,Ba,Bb,Bc,Bd,Be,Bf,Bg,Bh,Bi,Bj,Bk,Bl,Bm,Bn,Bo,Bp,Bq,Br,Bs,Bt,Bu,Bv,Bw,Bx,
 Bz,B0,B1,B3,B5,B6,B7,B8,B9,Ca,Cb,Cc,Cd,Ce,Cf,Cg,Ch,Ci,Cj,Ck,Cl,Cm,Cn,Co,Cp,Cq,Cr,Cs,Ct,Cu,Cv,Cw,Cx,
 Cy,Cz,C0,C1,C2,C3,Fk,C4,C5,C6,C7,C8,C9,Da,Db,Dc,Dd,De,Df,Dg,Dh,Di,Dj,Dk,Dl,Dm,Dn,Dp,Dq,
 Dr,Ds,Dt,Du,Dv,Dw,Dx,Dy,Dz,D0,D1,D2,D3,D4,D5,D6,D7,D8,D9,Ea,Eb,Ec,Ed,Ee,Ef,Eg,Eh,Ei,Ej,
 Ek,El,Em,En,Eo,Ep,Er,Es,Et,Eu,Ev,Ew,Ex,Ey,Ez,E0,E1,E2,E3,Fl,Fm,Fn,Fo,Fp,Fq,Fr,Fs,Ft,Fu,
 Fv,Fw,Fx,Fy,Fz,F0,F1,F2,F3,F4,E4,E5,E6,E7,E8,E9,Fa,Fb,Fc,Fd,Fe,Ff,Fg,F5],[]⟩ w := by
  conv => arg 2; whnf
  go_wp2_with (refine wpList_run (o := ⟨some 6, _, _, _, _, _⟩) rfl (.pointer (some ⟨w.heap.size, 0, none⟩)) (w.alloc (.cells z64 179)) (by kernel_rfl) ?_)
  exact hQ 

set_option maxRecDepth 100000 in
set_option maxHeartbeats 2000000 in
theorem blkCopy {F8 Aa Ab F9 Fh Fi Ac Ad Ae Af Ga Ag Ah F6 Ai F7 Aj Fj Ak Al Am An Ao Ap Aq Ar As Au Av Aw Ax Ay Az A0 A1 A2 A3 A4 A5 A6 A7 A8 A9 Ba Bb Bc Bd Be Bf Bg Bh Bi Bj Bk Bl Bm Bn Bo Bp Bq Br Bs Bt Bu Bv Bw Bx Bz B0 B1 B3 B5 B6 B7 B8 B9 Ca Cb Cc Cd Ce Cf Cg Ch Ci Cj Ck Cl Cm Cn Co Cp Cq Cr Cs Ct Cu Cv Cw Cx Cy Cz C0 C1 C2 C3 Fk C4 C5 C6 C7 C8 C9 Da Db Dc Dd De Df Dg Dh Di Dj Dk Dl Dm Dn Dp Dq Dr Ds Dt Du Dv Dw Dx Dy Dz D0 D1 D2 D3 D4 D5 D6 D7 D8 D9 Ea Eb Ec Ed Ee Ef Eg Eh Ei Ej Ek El Em En Eo Ep Er Es Et Eu Ev Ew Ex Ey Ez E0 E1 E2 E3 Fl Fm Fn Fo Fp Fq Fr Fs Ft Fu Fv Fw Fx Fy Fz F0 F1 F2 F3 F4 E4 E5 E6 E7 E8 E9 Fa Fb Fc Fd Fe Ff Fg F5 : Value} (s : Sha.S8) (B2 : Nat) {w : World} (h2 : Holds w B2 162 (wordCells s.list)) {Q : Exit → Act → World → Prop}
    (hQ : ∀ (Gd : Value) (BV : Nat) (w' : World) (_ : w.heap.size ≤ BV) (_ : Holds w' BV 162 (wordCells s.list)) (_ : Below w.heap.size w w'), Q .normal ⟨#[
 F8,Aa,(.pointer (some ⟨B2,0,none⟩)),Ab,F9,Fh,Fi,Ac,Ad,Ae,Af,.pointer (some ⟨BV,0,none⟩),Ag,Ah,F6,Ai,F7,Aj,Fj,Ak,Al,Am,An,Ao,Ap,Aq,
 Ar,As,Au,Av,Aw,Ax,Ay,Az,A0,A1,A2,A3,A4,A5,A6,A7,A8,A9,Ba,Bb,Bc,Bd,Be,Bf,Bg,Bh,Bi,Bj,Bk,Bl,Bm,Bn,Bo,
 Bp,Bq,Br,Bs,Bt,Bu,Bv,Bw,Bx,Bz,B0,B1,B3,B5,B6,B7,B8,B9,Ca,Cb,Cc,Cd,Ce,Cf,Cg,Ch,Ci,Cj,Ck,Cl,Cm,Cn,Co,
 Cp,Cq,Cr,Cs,Ct,Cu,Cv,Cw,Cx,Cy,Cz,C0,C1,C2,C3,Gd,C4,C5,C6,C7,C8,C9,Da,Db,Dc,Dd,De,Df,Dg,Dh,
 Di,Dj,Dk,Dl,Dm,Dn,Dp,Dq,Dr,Ds,Dt,Du,Dv,Dw,Dx,Dy,Dz,D0,D1,D2,D3,D4,D5,D6,D7,D8,D9,Ea,Eb,
 Ec,Ed,Ee,Ef,Eg,Eh,Ei,Ej,Ek,El,Em,En,Eo,Ep,Er,Es,Et,Eu,Ev,Ew,Ex,Ey,Ez,E0,E1,E2,E3,Fl,Fm,
 Fn,Fo,Fp,Fq,Fr,Fs,Ft,Fu,Fv,Fw,Fx,Fy,Fz,F0,F1,F2,F3,F4,E4,E5,E6,E7,E8,E9,Fa,Fb,Fc,Fd,Fe,
    Ff, Fg, F5], []⟩ (w')) :
    Code.wp Try.prog (blkReg 13) Q ⟨#[
 F8,Aa,(.pointer (some ⟨B2,0,none⟩)),Ab,F9,Fh,Fi,Ac,Ad,Ae,Af,Ga,Ag,Ah,F6,Ai,F7,Aj,Fj,Ak,Al,Am,An,Ao,Ap,Aq,Ar,As,Au,Av,
 Aw,Ax,Ay,Az,A0,A1,A2,A3,A4,A5,A6,A7,A8,A9,Ba,Bb,Bc,Bd,Be,Bf,Bg,Bh,Bi,Bj,Bk,Bl,Bm,Bn,Bo,Bp,Bq,Br,Bs,
 Bt,Bu,Bv,Bw,Bx,Bz,B0,B1,B3,B5,B6,B7,B8,B9,Ca,Cb,Cc,Cd,Ce,Cf,Cg,Ch,Ci,Cj,Ck,Cl,Cm,Cn,Co,Cp,Cq,Cr,Cs,
 Ct,Cu,Cv,Cw,Cx,Cy,Cz,C0,C1,C2,C3,Fk,C4,C5,C6,C7,C8,C9,Da,Db,Dc,Dd,De,Df,Dg,Dh,Di,Dj,Dk,
 Dl,Dm,Dn,Dp,Dq,Dr,Ds,Dt,Du,Dv,Dw,Dx,Dy,Dz,D0,D1,D2,D3,D4,D5,D6,D7,D8,D9,Ea,Eb,Ec,Ed,Ee,
 Ef,Eg,Eh,Ei,Ej,Ek,El,Em,En,Eo,Ep,Er,Es,Et,Eu,Ev,Ew,Ex,Ey,Ez,E0,E1,E2,E3,Fl,Fm,Fn,Fo,Fp,
 Fq,Fr,Fs,Ft,Fu,Fv,Fw,Fx,Fy,Fz,F0,F1,F2,F3,F4,E4,E5,E6,E7,E8,E9,Fa,Fb,Fc,Fd,Fe,Ff,Fg,F5
    ], []⟩ w := by
  conv => arg 2; whnf
  have hr : w.rangeAt B2 0 (wordCells s.list) := h2.range 0 _ (fun j _ => by rw [Nat.zero_add])
  have hl8 : (wordCells s.list).length = 8 := by simp [wordCells, Sha.S8.list]
  go_wp2_with (first
    | (refine wpList_load_mid rfl 162 (.tmp 2) rfl B2 0 rfl (wordCells s.list) _ (by exact hr) Try.underlying162 rfl (by exact Try.sizeW8) ?_)
    | (refine wpList_run (o := ⟨some 11, _, _, _, _, _⟩) rfl (.pointer (some ⟨w.heap.size, 0, none⟩)) (w.alloc (.cells z8 162)) (by kernel_rfl) ?_)
    | (refine wpList_store_mid rfl 162 (.tmp 11) (.tmp 107) rfl w.heap.size 0 (wordCells s.list).toArray rfl rfl (by exact (Holds.new _ _ _).there 0 8 z8_le) (by exact Try.sizeW8) (by exact all_oneCell_toArray (wordCells_one _)) ?_; generalize hW2 : World.setCells _ _ _ _ = W2))
  have hT0 : Holds W2 w.heap.size 162 (wordCells s.list) := by
    have h1 := Holds.put (Holds.new w 162 z8) 0 (wordCells s.list) (by rw [hl8]; decide)
    rw [put_all _ _ (by rw [hl8]; decide), hW2] at h1
    exact h1
  have hb2 : Below w.heap.size w W2 := by
    rw [← hW2]
    exact below_setCells ((Below.refl _ _).alloc (Nat.le_refl _) _) _ _ _ (Nat.le_refl _)
  exact hQ _ _ _ (Nat.le_refl _) hT0 hb2

set_option maxRecDepth 100000 in
set_option maxHeartbeats 2000000 in
theorem blkTurn {F8 Aa Gb Ab F9 Fh Fi Ac Ad Ae Af Ag Ah Ai Aj Fj Ak Al Am An Ao Ap Aq Ar As Au Av Aw Ax Ay Az A0 A1 A2 A3 A4 A5 A6 A7 A8 A9 Ba Bb Bc Bd Be Bf Bg Bh Bi Bj Bk Bl Bm Bn Bo Bp Bq Br Bs Bt Bu Bv Bw Bx Bz B0 B1 B3 B5 B6 B7 B8 B9 Ca Cb Cc Cd Ce Cf Cg Ch Ci Cj Ck Cl Cm Cn Co Cp Cq Cr Cs Ct Cu Cv Cw Cx Cy Cz C0 C1 C2 C3 Fk C4 C5 C6 C7 C8 C9 Da Db Dc Dd De Df Dg Dh Di Dj Dk Dl Dm Dn Dp Dq Dr Ds Dt Du Dv Dw Dx Dy Dz D0 D1 D2 D3 D4 D5 D6 D7 D8 D9 Ea Eb Ec Ed Ee Ef Eg Eh Ei Ej Ek El Em En Eo Ep Er Es Et Eu Ev Ew Ex Ey Ez E0 E1 E2 E3 Fl Fm Fn Fo Fp Fq Fr Fs Ft Fu Fv Fw Fx Fy Fz F0 F1 F2 F3 F4 E4 E5 E6 E7 E8 E9 Fa Fb Fc Fd Fe Ff Fg F5 : Value} (v : Sha.S8) (t x : BitVec 32) (BV : Nat) {w : World} (hV : Holds w BV 162 (wordCells v.list)) {Q : Exit → Act → World → Prop}
    (hQ : ∀ (Ge Gf Gg Gh Gi Gj Gk Gl Gm Gn Gp Gq Gr Gs Gt Gu Gv Gw Gx Gy : Value), Q .normal ⟨#[
 F8,Aa,Gb,Ab,F9,Fh,Fi,Ac,Ad,Ae,Af,(.pointer (some ⟨BV,0,none⟩)),Ag,Ah,(.int .u32 (u (t))),Ai,(.int .u32 (u (x))),Aj,Fj,Ak,Al,Am,An,Ao,Ap,
 Aq,Ar,As,Au,Av,Aw,Ax,Ay,Az,A0,A1,A2,A3,A4,A5,A6,A7,A8,A9,Ba,Bb,Bc,Bd,Be,Bf,Bg,Bh,Bi,Bj,Bk,Bl,Bm,Bn,
 Bo,Bp,Bq,Br,Bs,Bt,Bu,Bv,Bw,Bx,Bz,B0,B1,B3,B5,B6,B7,B8,B9,Ca,Cb,Cc,Cd,Ce,Cf,Cg,Ch,Ci,Cj,Ck,Cl,Cm,Cn,
 Co,Cp,Cq,Cr,Cs,Ct,Cu,Cv,Cw,Cx,Cy,Cz,C0,C1,C2,C3,Fk,C4,C5,C6,C7,C8,C9,Da,Db,Dc,Dd,De,Df,Dg,
 Dh,Di,Dj,Dk,Dl,Dm,Dn,Dp,Dq,Dr,Ds,Dt,Du,Dv,Dw,Dx,Dy,Dz,D0,D1,D2,D3,D4,D5,D6,D7,D8,D9,Ea,
 Eb,Ec,Ed,Ee,Ef,Eg,Eh,Ei,Ej,Ek,El,Em,En,Eo,Ep,Er,Es,Et,Eu,Ev,Ew,Ex,Ey,Ez,E0,E1,E2,E3,Ge,
 Gf,Gg,Gh,Gi,Gj,Gk,Gl,Gm,Gn,Gp,Gq,Gr,Gs,Gt,Gu,Gv,Gw,Gx,Gy,E4,E5,E6,E7,E8,E9,Fa,Fb,Fc,Fd,
 Fe,Ff,Fg,F5],[]⟩ (w.setCells BV 0 (wordCells (Sha.S8.list ⟨t + x,v.a,v.b,v.c,v.d + t,v.e,v.f,v.g⟩)))) :
    Code.wp Try.prog (blkReg 21) Q ⟨#[
 F8,Aa,Gb,Ab,F9,Fh,Fi,Ac,Ad,Ae,Af,(.pointer (some ⟨BV,0,none⟩)),Ag,Ah,(.int .u32 (u (t))),Ai,(.int .u32 (u (x))),Aj,Fj,Ak,Al,Am,An,Ao,Ap,
 Aq,Ar,As,Au,Av,Aw,Ax,Ay,Az,A0,A1,A2,A3,A4,A5,A6,A7,A8,A9,Ba,Bb,Bc,Bd,Be,Bf,Bg,Bh,Bi,Bj,Bk,Bl,Bm,Bn,
 Bo,Bp,Bq,Br,Bs,Bt,Bu,Bv,Bw,Bx,Bz,B0,B1,B3,B5,B6,B7,B8,B9,Ca,Cb,Cc,Cd,Ce,Cf,Cg,Ch,Ci,Cj,Ck,Cl,Cm,Cn,
 Co,Cp,Cq,Cr,Cs,Ct,Cu,Cv,Cw,Cx,Cy,Cz,C0,C1,C2,C3,Fk,C4,C5,C6,C7,C8,C9,Da,Db,Dc,Dd,De,Df,Dg,
 Dh,Di,Dj,Dk,Dl,Dm,Dn,Dp,Dq,Dr,Ds,Dt,Du,Dv,Dw,Dx,Dy,Dz,D0,D1,D2,D3,D4,D5,D6,D7,D8,D9,Ea,
 Eb,Ec,Ed,Ee,Ef,Eg,Eh,Ei,Ej,Ek,El,Em,En,Eo,Ep,Er,Es,Et,Eu,Ev,Ew,Ex,Ey,Ez,E0,E1,E2,E3,Fl,
 Fm,Fn,Fo,Fp,Fq,Fr,Fs,Ft,Fu,Fv,Fw,Fx,Fy,Fz,F0,F1,F2,F3,F4,E4,E5,E6,E7,E8,E9,Fa,Fb,Fc,Fd,
    Fe, Ff, Fg, F5], []⟩ w := by
  conv => arg 2; whnf
  have c0 : w.cell? ⟨BV, 0, none⟩ = some (.int .u32 (u v.a)) := hV.cell 0
  have c1 : w.cell? ⟨BV, 1, none⟩ = some (.int .u32 (u v.b)) := hV.cell 1
  have c2 : w.cell? ⟨BV, 2, none⟩ = some (.int .u32 (u v.c)) := hV.cell 2
  have c3 : w.cell? ⟨BV, 3, none⟩ = some (.int .u32 (u v.d)) := hV.cell 3
  have c4 : w.cell? ⟨BV, 4, none⟩ = some (.int .u32 (u v.e)) := hV.cell 4
  have c5 : w.cell? ⟨BV, 5, none⟩ = some (.int .u32 (u v.f)) := hV.cell 5
  have c6 : w.cell? ⟨BV, 6, none⟩ = some (.int .u32 (u v.g)) := hV.cell 6
  have hth : w.there BV 0 8 := hV.there 0 8 (by simp [wordCells, Sha.S8.list])
  go_wp2_with (refine wpList_store_mid rfl 162 (.tmp 11) (.tmp 197) rfl BV 0 (wordCells (Sha.S8.list ⟨t + x, v.a, v.b, v.c, v.d + t, v.e, v.f, v.g⟩)).toArray rfl rfl (by exact hth) (by exact Try.sizeW8) (by exact all_oneCell_toArray (wordCells_one _)) ?_)
  exact hQ _ _ _ _ _ _ _ _ _ _ _ _ _ _ _ _ _ _ _ _

set_option maxRecDepth 100000 in
set_option maxHeartbeats 2000000 in
theorem blkLast {F8 Aa Ab Fh Fi Ac Ad Ae Af Ga Ag Ah F6 Ai F7 Aj Fj Ak Al Am An Ao Ap Aq Ar As Au Av Aw Ax Ay Az A0 A1 A2 A3 A4 A5 A6 A7 A8 A9 Ba Bb Bc Bd Be Bf Bg Bh Bi Bj Bk Bl Bm Bn Bo Bp Bq Br Bs Bt Bu Bv Bw Bx Bz B0 B1 B3 B5 B6 B7 B8 B9 Ca Cb Cc Cd Ce Cf Cg Ch Ci Cj Ck Cl Cm Cn Co Cp Cq Cr Cs Ct Cu Cv Cw Cx Cy Cz C0 C1 C2 C3 Fk C4 C5 C6 C7 C8 C9 Da Db Dc Dd De Df Dg Dh Di Dj Dk Dl Dm Dn Dp Dq Dr Ds Dt Du Dv Dw Dx Dy Dz D0 D1 D2 D3 D4 D5 D6 D7 D8 D9 Ea Eb Ec Ed Ee Ef Eg Eh Ei Ej Ek El Em En Eo Ep Er Es Et Eu Ev Ew Ex Ey Ez E0 E1 E2 E3 Fl Fm Fn Fo Fp Fq Fr Fs Ft Fu Fv Fw Fx Fy Fz F0 F1 F2 F3 F4 E4 E5 E6 E7 E8 E9 Fa Fb Fc Fd Fe Ff Fg F5 : Value} (s : Sha.S8) (B2 B4 : Nat) {w : World} (h2 : Holds w B2 162 (wordCells s.list)) (h4 : w.there B4 0 8) {Q : Exit → Act → World → Prop}
    (hQ : ∀ (Gz : Value), Q .normal ⟨#[
 F8,Aa,(.pointer (some ⟨B2,0,none⟩)),Ab,(.pointer (some ⟨B4,0,none⟩)),Fh,Fi,Ac,Ad,Ae,Af,Ga,Ag,Ah,F6,Ai,F7,Aj,Fj,Ak,Al,Am,An,Ao,Ap,Aq,
 Ar,As,Au,Av,Aw,Ax,Ay,Az,A0,A1,A2,A3,A4,A5,A6,A7,A8,A9,Ba,Bb,Bc,Bd,Be,Bf,Bg,Bh,Bi,Bj,Bk,Bl,Bm,Bn,Bo,
 Bp,Bq,Br,Bs,Bt,Bu,Bv,Bw,Bx,Bz,B0,B1,B3,B5,B6,B7,B8,B9,Ca,Cb,Cc,Cd,Ce,Cf,Cg,Ch,Ci,Cj,Ck,Cl,Cm,Cn,Co,
 Cp,Cq,Cr,Cs,Ct,Cu,Cv,Cw,Cx,Cy,Cz,C0,C1,C2,C3,Fk,C4,C5,C6,C7,C8,C9,Da,Db,Dc,Dd,De,Df,Dg,Dh,
 Di,Dj,Dk,Dl,Dm,Dn,Dp,Dq,Dr,Ds,Dt,Du,Dv,Dw,Dx,Dy,Dz,D0,D1,D2,D3,D4,D5,D6,D7,D8,D9,Ea,Eb,
 Ec,Ed,Ee,Ef,Eg,Eh,Ei,Ej,Ek,El,Em,En,Eo,Ep,Er,Es,Et,Eu,Ev,Ew,Ex,Ey,Ez,E0,E1,E2,E3,Fl,Fm,
 Fn,Fo,Fp,Fq,Fr,Fs,Ft,Fu,Fv,Fw,Fx,Fy,Fz,F0,F1,F2,F3,F4,E4,E5,E6,E7,E8,E9,Fa,Fb,Fc,Fd,Fe,
    Ff, Fg, Gz], []⟩ (w.setCells B4 0 (wordCells s.list))) :
    Code.wp Try.prog (blkReg 26) Q ⟨#[
 F8,Aa,(.pointer (some ⟨B2,0,none⟩)),Ab,(.pointer (some ⟨B4,0,none⟩)),Fh,Fi,Ac,Ad,Ae,Af,Ga,Ag,Ah,F6,Ai,F7,Aj,Fj,Ak,Al,Am,An,Ao,Ap,Aq,
 Ar,As,Au,Av,Aw,Ax,Ay,Az,A0,A1,A2,A3,A4,A5,A6,A7,A8,A9,Ba,Bb,Bc,Bd,Be,Bf,Bg,Bh,Bi,Bj,Bk,Bl,Bm,Bn,Bo,
 Bp,Bq,Br,Bs,Bt,Bu,Bv,Bw,Bx,Bz,B0,B1,B3,B5,B6,B7,B8,B9,Ca,Cb,Cc,Cd,Ce,Cf,Cg,Ch,Ci,Cj,Ck,Cl,Cm,Cn,Co,
 Cp,Cq,Cr,Cs,Ct,Cu,Cv,Cw,Cx,Cy,Cz,C0,C1,C2,C3,Fk,C4,C5,C6,C7,C8,C9,Da,Db,Dc,Dd,De,Df,Dg,Dh,
 Di,Dj,Dk,Dl,Dm,Dn,Dp,Dq,Dr,Ds,Dt,Du,Dv,Dw,Dx,Dy,Dz,D0,D1,D2,D3,D4,D5,D6,D7,D8,D9,Ea,Eb,
 Ec,Ed,Ee,Ef,Eg,Eh,Ei,Ej,Ek,El,Em,En,Eo,Ep,Er,Es,Et,Eu,Ev,Ew,Ex,Ey,Ez,E0,E1,E2,E3,Fl,Fm,
 Fn,Fo,Fp,Fq,Fr,Fs,Ft,Fu,Fv,Fw,Fx,Fy,Fz,F0,F1,F2,F3,F4,E4,E5,E6,E7,E8,E9,Fa,Fb,Fc,Fd,Fe,
    Ff, Fg, F5], []⟩ w := by
  conv => arg 2; whnf
  have hr : w.rangeAt B2 0 (wordCells s.list) := h2.range 0 _ (fun j _ => by rw [Nat.zero_add])
  go_wp2_with (first
    | (refine wpList_load_mid rfl 162 (.tmp 2) rfl B2 0 rfl (wordCells s.list) _ (by exact hr) Try.underlying162 rfl (by exact Try.sizeW8) ?_)
    | (refine wpList_store_mid rfl 162 (.tmp 4) (.tmp 211) rfl B4 0 (wordCells s.list).toArray rfl rfl (by exact h4) (by exact Try.sizeW8) (by exact all_oneCell_toArray (wordCells_one _)) ?_))
  exact hQ _

set_option maxRecDepth 100000 in
theorem blkFirstA {T : Array Value} {l1 l2 l4 l5 l6 l7 l8 l9 l10 l11 l12 l13 l14 l15 l16 l17 : Value} (s : Sha.S8) {w : World} {Q : Exit → Act → World → Prop} (hL : blkLive T (s8Agg s) l1 l2 l4 l5 l6 l7 l8 l9 l10 l11 l12 l13 l14 l15 l16 l17)
    (hQ : ∀ (T' : Array Value), blkLive T' (s8Agg s) l1 (.pointer (some ⟨w.heap.size, 0, none⟩)) (.pointer (some ⟨w.heap.size + 1, 0, none⟩)) l5 l6 l7 l8 l9 l10 l11 l12 l13 l14 l15 l16 l17 → Q .normal ⟨T', []⟩ ((w.alloc (.cells (wordCells s.list).toArray 162)).alloc (.cells (Array.replicate 8 (.int .u32 0)) 162))) : Code.wp Try.prog (blkReg 0) Q ⟨T, []⟩ w := by
  rw [blkOut T hL.size]
  rw [hL.s0, hL.s1, hL.s2, hL.s4, hL.s5, hL.s6, hL.s7, hL.s8, hL.s9, hL.s10, hL.s11, hL.s12, hL.s13, hL.s14, hL.s15, hL.s16, hL.s17]
  refine blkFirst s ?_
  intros
  exact hQ _ ⟨rfl, rfl, rfl, rfl, rfl, rfl, rfl, rfl, rfl, rfl, rfl, rfl, rfl, rfl, rfl, rfl, rfl, rfl⟩

set_option maxRecDepth 100000 in
theorem blkTableA {T : Array Value} {l0 l1 l2 l4 l5 l6 l7 l8 l9 l10 l11 l12 l13 l14 l15 l16 l17 : Value} {w : World} {Q : Exit → Act → World → Prop} (hL : blkLive T l0 l1 l2 l4 l5 l6 l7 l8 l9 l10 l11 l12 l13 l14 l15 l16 l17)
    (hQ : ∀ (T' : Array Value) (BT : Nat) (w' : World) (_ : w.heap.size ≤ BT) (_ : Holds w' BT 179 (wordCells Sha.ks)) (_ : Below w.heap.size w w'), blkLive T' l0 l1 l2 l4 (.pointer (some ⟨BT, 0, none⟩)) l6 l7 l8 l9 l10 l11 l12 l13 l14 l15 l16 l17 → Q .normal ⟨T', []⟩ (w')) : Code.wp Try.prog (blkReg 1) Q ⟨T, []⟩ w := by
  rw [blkOut T hL.size]
  rw [hL.s0, hL.s1, hL.s2, hL.s4, hL.s5, hL.s6, hL.s7, hL.s8, hL.s9, hL.s10, hL.s11, hL.s12, hL.s13, hL.s14, hL.s15, hL.s16, hL.s17]
  refine blkTable  ?_
  intro _ BT w' hl hT hb
  exact hQ _ BT w' hl hT hb ⟨rfl, rfl, rfl, rfl, rfl, rfl, rfl, rfl, rfl, rfl, rfl, rfl, rfl, rfl, rfl, rfl, rfl, rfl⟩

set_option maxRecDepth 100000 in
theorem blkZeroA {T : Array Value} {l0 l1 l2 l4 l5 l6 l7 l8 l9 l10 l11 l12 l13 l14 l15 l16 l17 : Value} {w : World} {Q : Exit → Act → World → Prop} (hL : blkLive T l0 l1 l2 l4 l5 l6 l7 l8 l9 l10 l11 l12 l13 l14 l15 l16 l17)
    (hQ : ∀ (T' : Array Value), blkLive T' l0 l1 l2 l4 l5 (.pointer (some ⟨w.heap.size, 0, none⟩)) l7 l8 l9 l10 l11 l12 l13 l14 l15 l16 l17 → Q .normal ⟨T', []⟩ (w.alloc (.cells z64 179))) : Code.wp Try.prog (blkReg 2) Q ⟨T, []⟩ w := by
  rw [blkOut T hL.size]
  rw [hL.s0, hL.s1, hL.s2, hL.s4, hL.s5, hL.s6, hL.s7, hL.s8, hL.s9, hL.s10, hL.s11, hL.s12, hL.s13, hL.s14, hL.s15, hL.s16, hL.s17]
  refine blkZero  ?_
  intros
  exact hQ _ ⟨rfl, rfl, rfl, rfl, rfl, rfl, rfl, rfl, rfl, rfl, rfl, rfl, rfl, rfl, rfl, rfl, rfl, rfl⟩

set_option maxRecDepth 100000 in
theorem blkCopyA {T : Array Value} {l0 l1 l4 l5 l6 l7 l8 l9 l10 l11 l12 l13 l14 l15 l16 l17 : Value} (s : Sha.S8) (B2 : Nat) {w : World} (h2 : Holds w B2 162 (wordCells s.list)) {Q : Exit → Act → World → Prop} (hL : blkLive T l0 l1 (.pointer (some ⟨B2, 0, none⟩)) l4 l5 l6 l7 l8 l9 l10 l11 l12 l13 l14 l15 l16 l17)
    (hQ : ∀ (T' : Array Value) (BV : Nat) (w' : World) (_ : w.heap.size ≤ BV) (_ : Holds w' BV 162 (wordCells s.list)) (_ : Below w.heap.size w w'), blkLive T' l0 l1 (.pointer (some ⟨B2, 0, none⟩)) l4 l5 l6 l7 l8 l9 l10 (.pointer (some ⟨BV, 0, none⟩)) l12 l13 l14 l15 l16 l17 → Q .normal ⟨T', []⟩ (w')) : Code.wp Try.prog (blkReg 13) Q ⟨T, []⟩ w := by
  rw [blkOut T hL.size]
  rw [hL.s0, hL.s1, hL.s2, hL.s4, hL.s5, hL.s6, hL.s7, hL.s8, hL.s9, hL.s10, hL.s11, hL.s12, hL.s13, hL.s14, hL.s15, hL.s16, hL.s17]
  refine blkCopy s B2 h2 ?_
  intro _ BV w' hl hV hb
  exact hQ _ BV w' hl hV hb ⟨rfl, rfl, rfl, rfl, rfl, rfl, rfl, rfl, rfl, rfl, rfl, rfl, rfl, rfl, rfl, rfl, rfl, rfl⟩

set_option maxRecDepth 100000 in
theorem blkTurnA {T : Array Value} {l0 l1 l2 l4 l5 l6 l7 l8 l9 l10 l12 l13 l15 l17 : Value} (v : Sha.S8) (t x : BitVec 32) (BV : Nat) {w : World} (hV : Holds w BV 162 (wordCells v.list)) {Q : Exit → Act → World → Prop} (hL : blkLive T l0 l1 l2 l4 l5 l6 l7 l8 l9 l10 (.pointer (some ⟨BV, 0, none⟩)) l12 l13 (.int .u32 (u (t))) l15 (.int .u32 (u (x))) l17)
 (hQ : ∀ (T' : Array Value),blkLive T' l0 l1 l2 l4 l5 l6 l7 l8 l9 l10 (.pointer (some ⟨BV,0,none⟩)) l12 l13 (.int .u32 (u (t))) l15 (.int .u32 (u (x))) l17 → Q .normal ⟨T',[]⟩ (w.setCells BV 0 (wordCells (Sha.S8.list ⟨t + x,v.a,v.b,v.c,v.d + t,v.e,v.f,v.g⟩)))) : Code.wp Try.prog (blkReg 21) Q ⟨T,[]⟩ w := by
  rw [blkOut T hL.size]
  rw [hL.s0, hL.s1, hL.s2, hL.s4, hL.s5, hL.s6, hL.s7, hL.s8, hL.s9, hL.s10, hL.s11, hL.s12, hL.s13, hL.s14, hL.s15, hL.s16, hL.s17]
  refine blkTurn v t x BV hV ?_
  intros
  exact hQ _ ⟨rfl, rfl, rfl, rfl, rfl, rfl, rfl, rfl, rfl, rfl, rfl, rfl, rfl, rfl, rfl, rfl, rfl, rfl⟩

set_option maxRecDepth 100000 in
theorem blkLastA {T : Array Value} {l0 l1 l5 l6 l7 l8 l9 l10 l11 l12 l13 l14 l15 l16 l17 : Value} (s : Sha.S8) (B2 B4 : Nat) {w : World} (h2 : Holds w B2 162 (wordCells s.list)) (h4 : w.there B4 0 8) {Q : Exit → Act → World → Prop} (hL : blkLive T l0 l1 (.pointer (some ⟨B2, 0, none⟩)) (.pointer (some ⟨B4, 0, none⟩)) l5 l6 l7 l8 l9 l10 l11 l12 l13 l14 l15 l16 l17)
    (hQ : ∀ (T' : Array Value), blkLive T' l0 l1 (.pointer (some ⟨B2, 0, none⟩)) (.pointer (some ⟨B4, 0, none⟩)) l5 l6 l7 l8 l9 l10 l11 l12 l13 l14 l15 l16 l17 → Q .normal ⟨T', []⟩ (w.setCells B4 0 (wordCells s.list))) : Code.wp Try.prog (blkReg 26) Q ⟨T, []⟩ w := by
  rw [blkOut T hL.size]
  rw [hL.s0, hL.s1, hL.s2, hL.s4, hL.s5, hL.s6, hL.s7, hL.s8, hL.s9, hL.s10, hL.s11, hL.s12, hL.s13, hL.s14, hL.s15, hL.s16, hL.s17]
  refine blkLast s B2 B4 h2 h4 ?_
  intros
  exact hQ _ ⟨rfl, rfl, rfl, rfl, rfl, rfl, rfl, rfl, rfl, rfl, rfl, rfl, rfl, rfl, rfl, rfl, rfl, rfl⟩

end Go.Proofs.Ytpjfhbmegabafaa
