/- Regions of sha.mix, one by one. Made by tools/regions.py. -/
import Derived.Test.YtmgaegaibglnhaaGreatMixBase
namespace Go.Proofs.YtmgaegaibglnhaaGreat
open Go.RowKit
attribute [local go_sem] u_add u_wrap_add u_or u_and u_xor

set_option maxRecDepth 100000 in
set_option maxHeartbeats 2000000 in
theorem mixWord {Aa Ab Ac Ad Ae Af Ag Ah Ai Aj Ak Al Am An Ao Ap Aq Ar As Au Kc Kd Ke Kf Kg Kh Ki Kj Kk Kl Km Kn Ko Kp Kq Kr Ks Kt Ku Kv Kw Kx Ky Kz K0 K1 K2 K3 K4 K5 K6 K7 K8 K9 La Lb Lc Ld Le Av Aw Ax Ay Az A0 A1 A2 A3 A4 A5 A6 A7 A8 A9 Ba Bb Bc Bd Be Bf Bg Bh Bi Bj Bk Bl Bm Bn Bo Bp Bq Br Bs Bt Bu Bv Bw Bx Bz B0 B1 B2 B3 B4 B5 B6 B7 B8 B9 Ca Cb Cc Cd Ce Cf Cg Ch Ci Cj Ck Cl Cm Cn Co Cp Cq Cr Cs Ct Cu Cv Cw Cx Cy Cz C0 C1 C2 C3 C4 C5 C6 C7 C8 C9 Da Db Dc Dd De Df Dg Dh Di Dj Dk Dl Dm Dn Dp Dq Dr Ds Dt Du Dv Dw Dx Dy Dz D0 D1 D2 D3 D4 D5 D6 D7 D8 D9 Ea Eb Ec Ed Ee Ef Eg Eh Ei Ej Ek El Em En Eo Ep Er Es Et Eu Ev Ew Ex Ey Ez E0 E1 E2 E3 E4 E5 E6 E7 E8 E9 Fa Fb Fc Fd Fe Ff Fg Fh Fi Fj Fk Fl Fm Fn Fo Fp Fq Fr Fs Ft Fu Fv Fw Fx Fy Fz F0 F1 F2 F3 F4 F5 F6 F7 F8 F9 Ga Gb Gc Gd Ge Gf Gg Gh Gi Gj Gk Gl Gm Gn Gp Gq Gr Gs Gt Gu Gv Gw Gx Gy Gz G0 G1 G2 G3 G4 G5 G6 G7 G8 G9 Ha Hb Hc Hd He Hf Hg Hh Hi Hj Hk Hl Hm Hn Ho Hp Hq Hr Hs Ht Hu Hv Hw Hx Hy Hz H0 H1 H2 H3 H4 H5 H6 H7 H8 H9 Ia Ib Ic Ie Ig Ih Ii Ij Ik Il Im Io Ip Iq Ir Is It Iu Iv Iw Ix Iy Iz I0 I1 I2 I3 I4 I5 I6 I7 I8 I9 Ja Jb Jc Jd Je Jf Jg Jh Ji Jj Jk Jl Jm Jn Jo Jp Jq Jr Js Jt Ju Jv Jw Jx Jy Jz J0 J1 J2 J3 J4 J5 J6 J7 J8 J9 Ka Kb : Value} (x0 x1 x2 x3 : BitVec 32) (g BW k : Nat) (hk : k < 16) {w : World} (v0 : Value) (c0 : w.cell? ⟨g, 8 + 4 * k, none⟩ = some (.int .u8 (u x0))) (c1 : w.cell? ⟨g, 8 + (4 * k + 1), none⟩ = some (.int .u8 (u x1))) (c2 : w.cell? ⟨g, 8 + (4 * k + 2), none⟩ = some (.int .u8 (u x2))) (c3 : w.cell? ⟨g, 8 + (4 * k + 3), none⟩ = some (.int .u8 (u x3)))
    (b0 : 0 ≤ u x0 ∧ u x0 ≤ 255) (b1 : 0 ≤ u x1 ∧ u x1 ≤ 255) (b2 : 0 ≤ u x2 ∧ u x2 ≤ 255) (b3 : 0 ≤ u x3 ∧ u x3 ≤ 255) (cw : w.cell? ⟨BW, k, none⟩ = some v0) (cf : w.frozen? ⟨BW, k, none⟩ = false) {Q : Exit → Act → World → Prop}
    (hQ : ∀ (Lf Lg Lh Li Lj Lk Ll Lm Ln Lo Lp Lq Lr Ls Lt Lu Lv Lw Lx Ly Lz L0 L1 L2 L3 L4 L5 L6 L7 L8 L9 Ma Mb Mc Md Me Mf Mg Mh : Value), Q .normal ⟨#[
 Aa,(.pointer (some ⟨g,8,none⟩)),Ab,Ac,Ad,(.pointer (some ⟨BW,0,none⟩)),(.int .i64 (k : Int)),Ae,Af,Ag,Ah,Ai,Aj,Ak,Al,Am,An,Ao,Ap,Aq,Ar,As,Au,
 Lf,Lg,Lh,Li,Lj,Lk,Ll,Lm,Ln,Lo,Lp,Lq,Lr,Ls,Lt,Lu,Lv,Lw,Lx,Ly,Lz,L0,L1,L2,L3,L4,L5,L6,L7,L8,L9,Ma,Mb,
 Mc,Md,Me,Mf,Mg,Mh,Av,Aw,Ax,Ay,Az,A0,A1,A2,A3,A4,A5,A6,A7,A8,A9,Ba,Bb,Bc,Bd,Be,Bf,Bg,Bh,Bi,Bj,Bk,Bl,
 Bm,Bn,Bo,Bp,Bq,Br,Bs,Bt,Bu,Bv,Bw,Bx,Bz,B0,B1,B2,B3,B4,B5,B6,B7,B8,B9,Ca,Cb,Cc,Cd,Ce,Cf,Cg,
 Ch,Ci,Cj,Ck,Cl,Cm,Cn,Co,Cp,Cq,Cr,Cs,Ct,Cu,Cv,Cw,Cx,Cy,Cz,C0,C1,C2,C3,C4,C5,C6,C7,C8,C9,
 Da,Db,Dc,Dd,De,Df,Dg,Dh,Di,Dj,Dk,Dl,Dm,Dn,Dp,Dq,Dr,Ds,Dt,Du,Dv,Dw,Dx,Dy,Dz,D0,D1,D2,D3,
 D4,D5,D6,D7,D8,D9,Ea,Eb,Ec,Ed,Ee,Ef,Eg,Eh,Ei,Ej,Ek,El,Em,En,Eo,Ep,Er,Es,Et,Eu,Ev,Ew,Ex,
 Ey,Ez,E0,E1,E2,E3,E4,E5,E6,E7,E8,E9,Fa,Fb,Fc,Fd,Fe,Ff,Fg,Fh,Fi,Fj,Fk,Fl,Fm,Fn,Fo,Fp,Fq,
 Fr,Fs,Ft,Fu,Fv,Fw,Fx,Fy,Fz,F0,F1,F2,F3,F4,F5,F6,F7,F8,F9,Ga,Gb,Gc,Gd,Ge,Gf,Gg,Gh,Gi,Gj,
 Gk,Gl,Gm,Gn,Gp,Gq,Gr,Gs,Gt,Gu,Gv,Gw,Gx,Gy,Gz,G0,G1,G2,G3,G4,G5,G6,G7,G8,G9,Ha,Hb,Hc,Hd,
 He,Hf,Hg,Hh,Hi,Hj,Hk,Hl,Hm,Hn,Ho,Hp,Hq,Hr,Hs,Ht,Hu,Hv,Hw,Hx,Hy,Hz,H0,H1,H2,H3,H4,H5,H6,
 H7,H8,H9,Ia,Ib,Ic,Ie,Ig,Ih,Ii,Ij,Ik,Il,Im,Io,Ip,Iq,Ir,Is,It,Iu,Iv,Iw,Ix,Iy,Iz,I0,I1,I2,
 I3,I4,I5,I6,I7,I8,I9,Ja,Jb,Jc,Jd,Je,Jf,Jg,Jh,Ji,Jj,Jk,Jl,Jm,Jn,Jo,Jp,Jq,Jr,Js,Jt,Ju,Jv,
 Jw,Jx,Jy,Jz,J0,J1,J2,J3,J4,J5,J6,J7,J8,J9,Ka,Kb],[]⟩ ((w.setCell ⟨BW,k,none⟩ (.int .u32 (u (x0 <<< 24 ||| x1 <<< 16 ||| x2 <<< 8 ||| x3)))).drew)) :
    Code.wp Tryz.prog (mixReg 5) Q ⟨#[
 Aa,(.pointer (some ⟨g,8,none⟩)),Ab,Ac,Ad,(.pointer (some ⟨BW,0,none⟩)),(.int .i64 (k : Int)),Ae,Af,Ag,Ah,Ai,Aj,Ak,Al,Am,An,Ao,Ap,Aq,Ar,As,Au,
 Kc,Kd,Ke,Kf,Kg,Kh,Ki,Kj,Kk,Kl,Km,Kn,Ko,Kp,Kq,Kr,Ks,Kt,Ku,Kv,Kw,Kx,Ky,Kz,K0,K1,K2,K3,K4,K5,K6,K7,K8,
 K9,La,Lb,Lc,Ld,Le,Av,Aw,Ax,Ay,Az,A0,A1,A2,A3,A4,A5,A6,A7,A8,A9,Ba,Bb,Bc,Bd,Be,Bf,Bg,Bh,Bi,Bj,Bk,Bl,
 Bm,Bn,Bo,Bp,Bq,Br,Bs,Bt,Bu,Bv,Bw,Bx,Bz,B0,B1,B2,B3,B4,B5,B6,B7,B8,B9,Ca,Cb,Cc,Cd,Ce,Cf,Cg,
 Ch,Ci,Cj,Ck,Cl,Cm,Cn,Co,Cp,Cq,Cr,Cs,Ct,Cu,Cv,Cw,Cx,Cy,Cz,C0,C1,C2,C3,C4,C5,C6,C7,C8,C9,
 Da,Db,Dc,Dd,De,Df,Dg,Dh,Di,Dj,Dk,Dl,Dm,Dn,Dp,Dq,Dr,Ds,Dt,Du,Dv,Dw,Dx,Dy,Dz,D0,D1,D2,D3,
 D4,D5,D6,D7,D8,D9,Ea,Eb,Ec,Ed,Ee,Ef,Eg,Eh,Ei,Ej,Ek,El,Em,En,Eo,Ep,Er,Es,Et,Eu,Ev,Ew,Ex,
 Ey,Ez,E0,E1,E2,E3,E4,E5,E6,E7,E8,E9,Fa,Fb,Fc,Fd,Fe,Ff,Fg,Fh,Fi,Fj,Fk,Fl,Fm,Fn,Fo,Fp,Fq,
 Fr,Fs,Ft,Fu,Fv,Fw,Fx,Fy,Fz,F0,F1,F2,F3,F4,F5,F6,F7,F8,F9,Ga,Gb,Gc,Gd,Ge,Gf,Gg,Gh,Gi,Gj,
 Gk,Gl,Gm,Gn,Gp,Gq,Gr,Gs,Gt,Gu,Gv,Gw,Gx,Gy,Gz,G0,G1,G2,G3,G4,G5,G6,G7,G8,G9,Ha,Hb,Hc,Hd,
 He,Hf,Hg,Hh,Hi,Hj,Hk,Hl,Hm,Hn,Ho,Hp,Hq,Hr,Hs,Ht,Hu,Hv,Hw,Hx,Hy,Hz,H0,H1,H2,H3,H4,H5,H6,
 H7,H8,H9,Ia,Ib,Ic,Ie,Ig,Ih,Ii,Ij,Ik,Il,Im,Io,Ip,Iq,Ir,Is,It,Iu,Iv,Iw,Ix,Iy,Iz,I0,I1,I2,
 I3,I4,I5,I6,I7,I8,I9,Ja,Jb,Jc,Jd,Je,Jf,Jg,Jh,Ji,Jj,Jk,Jl,Jm,Jn,Jo,Jp,Jq,Jr,Js,Jt,Ju,Jv,
 Jw,Jx,Jy,Jz,J0,J1,J2,J3,J4,J5,J6,J7,J8,J9,Ka,Kb],[]⟩ w := by
  conv => arg 2; whnf
  have s0 : IntKind.i64.wrap (4 * (k : Int)) = 4 * (k : Int) := IntWalk.i64_in _ (by omega)
  have p0 : 0 ≤ 4 * (k : Int) := by omega
  have q0 : 4 * (k : Int) < 64 := by omega
  have n0 : (4 * (k : Int)).toNat = 4 * k := by omega
  have s1 : IntKind.i64.wrap (4 * (k : Int) + 1) = 4 * (k : Int) + 1 := IntWalk.i64_in _ (by omega)
  have p1 : 0 ≤ 4 * (k : Int) + 1 := by omega
  have q1 : 4 * (k : Int) + 1 < 64 := by omega
  have n1 : (4 * (k : Int) + 1).toNat = 4 * k + 1 := by omega
  have s2 : IntKind.i64.wrap (4 * (k : Int) + 2) = 4 * (k : Int) + 2 := IntWalk.i64_in _ (by omega)
  have p2 : 0 ≤ 4 * (k : Int) + 2 := by omega
  have q2 : 4 * (k : Int) + 2 < 64 := by omega
  have n2 : (4 * (k : Int) + 2).toNat = 4 * k + 2 := by omega
  have s3 : IntKind.i64.wrap (4 * (k : Int) + 3) = 4 * (k : Int) + 3 := IntWalk.i64_in _ (by omega)
  have p3 : 0 ≤ 4 * (k : Int) + 3 := by omega
  have q3 : 4 * (k : Int) + 3 < 64 := by omega
  have n3 : (4 * (k : Int) + 3).toNat = 4 * k + 3 := by omega
  have q4 : (k : Int) < 64 := by omega
  go_still_tail 39, (by kernel_rfl)
  clear s0 s1 s2 s3 n0 n1 n2 n3
  change wpList _ _ _ _ _ w.drew
  go_wp2
  rw [u_byte24 x0 b0, u_byte16 x1 b1, u_byte8 x2 b2, u_or, u_or, u_or]
  exact hQ _ _ _ _ _ _ _ _ _ _ _ _ _ _ _ _ _ _ _ _ _ _ _ _ _ _ _ _ _ _ _ _ _ _ _ _ _ _ _

set_option maxRecDepth 100000 in
theorem mixWordA {T : Array Value} {l0 l4 l7 l8 l9 l10 l11 l12 l13 l14 l15 l16 l17 l18 l20 : Value} (x0 x1 x2 x3 : BitVec 32) (g BW k : Nat) (hk : k < 16) {w : World} (v0 : Value) (c0 : w.cell? ⟨g, 8 + 4 * k, none⟩ = some (.int .u8 (u x0))) (c1 : w.cell? ⟨g, 8 + (4 * k + 1), none⟩ = some (.int .u8 (u x1))) (c2 : w.cell? ⟨g, 8 + (4 * k + 2), none⟩ = some (.int .u8 (u x2))) (c3 : w.cell? ⟨g, 8 + (4 * k + 3), none⟩ = some (.int .u8 (u x3)))
    (b0 : 0 ≤ u x0 ∧ u x0 ≤ 255) (b1 : 0 ≤ u x1 ∧ u x1 ≤ 255) (b2 : 0 ≤ u x2 ∧ u x2 ≤ 255) (b3 : 0 ≤ u x3 ∧ u x3 ≤ 255) (cw : w.cell? ⟨BW, k, none⟩ = some v0) (cf : w.frozen? ⟨BW, k, none⟩ = false) {Q : Exit → Act → World → Prop} (hL : mixLive T l0 (.pointer (some ⟨g, 8, none⟩)) l4 (.pointer (some ⟨BW, 0, none⟩)) (.int .i64 (k : Int)) l7 l8 l9 l10 l11 l12 l13 l14 l15 l16 l17 l18 l20)
 (hQ : ∀ (T' : Array Value),mixLive T' l0 (.pointer (some ⟨g,8,none⟩)) l4 (.pointer (some ⟨BW,0,none⟩)) (.int .i64 (k : Int)) l7 l8 l9 l10 l11 l12 l13 l14 l15 l16 l17 l18 l20 → Q .normal ⟨T',[]⟩ ((w.setCell ⟨BW,k,none⟩ (.int .u32 (u (x0 <<< 24 ||| x1 <<< 16 ||| x2 <<< 8 ||| x3)))).drew)) : Code.wp Tryz.prog (mixReg 5) Q ⟨T,[]⟩ w := by
  rw [mixOut T hL.size]
  rw [hL.s0, hL.s1, hL.s4, hL.s5, hL.s6, hL.s7, hL.s8, hL.s9, hL.s10, hL.s11, hL.s12, hL.s13, hL.s14, hL.s15, hL.s16, hL.s17, hL.s18, hL.s20]
  refine mixWord x0 x1 x2 x3 g BW k hk v0 c0 c1 c2 c3 b0 b1 b2 b3 cw cf ?_
  intros
  exact hQ _ ⟨rfl, rfl, rfl, rfl, rfl, rfl, rfl, rfl, rfl, rfl, rfl, rfl, rfl, rfl, rfl, rfl, rfl, rfl, rfl⟩

end Go.Proofs.YtmgaegaibglnhaaGreat
