/- Regions of sha.mix, one by one. Made by tools/regions.py. -/
import Derived.Test.YtpjfhbmegabafaaLMixWord
namespace Go.Proofs.Ytpjfhbmegabafaa
open Go.RowKit
attribute [local go_sem] u_add u_wrap_add u_or u_and u_xor

set_option maxRecDepth 100000 in
set_option maxHeartbeats 2000000 in
theorem mixSched {Lh Aa Ab Ac K5 Ad K8 K9 La Lb Lc Ld Le Lf K6 Hj Hk Ae Af Ag Ah Ai Aj Ak Al Am An Ao Ap Aq Ar As Au Av Aw Ax Ay Az A0 A1 A2 A3 A4 A5 A6 A7 A8 A9 Ba Bb Bc Bd Be Bf Bg Bh Bi Bj Bk Bl Bm Bn Bo Bp Bq Hl Hm Hn Ho Hp Hq Hr Hs Ht Hu Hv Hw Hx Hy Hz H0 H1 H2 H3 H4 H5 H6 H7 H8 H9 Ia Ib Ic Ie Ig Ih Ii Ij Ik Il Im Io Ip Iq Ir Is It Iu Iv Iw Ix Iy Iz I0 I1 I2 I3 I4 I5 I6 Br Bs Bt Bu I7 I8 I9 Ja Jb Jc Bv Bw Bx Bz B0 B1 B2 B3 B4 B5 B6 B7 B8 B9 Ca Cb Cc Cd Ce Cf Cg Ch Ci Cj Ck Cl Cm Cn Co Cp Cq Cr Cs Ct Cu Cv Cw Cx Cy Cz C0 C1 C2 C3 C4 C5 C6 C7 C8 C9 Da Db Dc Dd De Df Dg Dh Di Dj Dk Dl Dm Dn Dp Dq Dr Ds Dt Du Dv Dw Dx Dy Dz D0 D1 D2 D3 D4 D5 D6 D7 D8 D9 Ea Eb Ec Ed Ee Ef Eg Eh Ei Ej Ek El Em En Eo Ep Er Es Et Eu Ev Ew Ex Ey Ez E0 E1 E2 E3 E4 E5 E6 E7 E8 E9 Fa Fb Fc Fd Fe Ff Fg Fh Fi Fj Fk Fl Fm Fn Fo Fp Fq Fr Fs Ft Fu Fv Fw Fx Fy Fz F0 F1 F2 F3 F4 F5 F6 F7 F8 F9 Ga Gb Gc Gd Ge Gf Gg Gh Gi Gj Gk Gl Gm Gn Gp Gq Gr Gs Gt Gu Gv Gw Gx Gy Gz G0 G1 G2 G3 G4 G5 G6 G7 G8 G9 Ha Hb Hc Hd He Hf Hg Hh Hi Jd Je Jf Jg Jh Ji Jj Jk Jl Jm Jn Jo Jp Jq Jr Js Jt Ju Jv Jw Jx Jy Jz J0 J1 J2 J3 J4 J5 J6 J7 J8 J9 Ka Kb Kc Kd Ke Kf Kg Kh Ki Kj Kk Kl Km Kn Ko Kp Kq Kr Ks Kt Ku Kv Kw Kx Ky Kz K0 K1 K2 K3 K4 : Value} (y16 y15 y7 y2 : BitVec 32) (BW k : Nat) (hk1 : 16 ≤ k) (hk : k < 64) {w : World} (v0 : Value) (c16 : w.cell? ⟨BW, k - 16, none⟩ = some (.int .u32 (u y16))) (c15 : w.cell? ⟨BW, k - 15, none⟩ = some (.int .u32 (u y15))) (c7 : w.cell? ⟨BW, k - 7, none⟩ = some (.int .u32 (u y7))) (c2 : w.cell? ⟨BW, k - 2, none⟩ = some (.int .u32 (u y2)))
    (cw : w.cell? ⟨BW, k, none⟩ = some v0) (cf : w.frozen? ⟨BW, k, none⟩ = false) {Q : Exit → Act → World → Prop}
    (hQ : ∀ (Li Lj Lk Ll Lm Ln Lo Lp Lq Lr Ls Lt Lu Lv Lw Lx Ly Lz L0 L1 L2 L3 L4 : Value), Q .normal ⟨#[
 Lh,Aa,Ab,Ac,K5,(.pointer (some ⟨BW,0,none⟩)),Ad,(.int .i64 (k : Int)),K8,K9,La,Lb,Lc,Ld,Le,Lf,K6,Hj,Hk,Ae,Af,Ag,Ah,Ai,Aj,Ak,Al,
 Am,An,Ao,Ap,Aq,Ar,As,Au,Av,Aw,Ax,Ay,Az,A0,A1,A2,A3,A4,A5,A6,A7,A8,A9,Ba,Bb,Bc,Bd,Be,Bf,Bg,Bh,Bi,Bj,
 Bk,Bl,Bm,Bn,Bo,Bp,Bq,Li,Lj,Lk,Ll,Lm,Ln,Lo,Lp,Lq,Lr,Ls,Lt,Lu,Lv,Lw,Lx,Ly,Lz,L0,L1,L2,L3,L4,H8,H9,Ia,
 Ib,Ic,Ie,Ig,Ih,Ii,Ij,Ik,Il,Im,Io,Ip,Iq,Ir,Is,It,Iu,Iv,Iw,Ix,Iy,Iz,I0,I1,I2,I3,I4,I5,I6,Br,
 Bs,Bt,Bu,I7,I8,I9,Ja,Jb,Jc,Bv,Bw,Bx,Bz,B0,B1,B2,B3,B4,B5,B6,B7,B8,B9,Ca,Cb,Cc,Cd,Ce,Cf,
 Cg,Ch,Ci,Cj,Ck,Cl,Cm,Cn,Co,Cp,Cq,Cr,Cs,Ct,Cu,Cv,Cw,Cx,Cy,Cz,C0,C1,C2,C3,C4,C5,C6,C7,C8,
 C9,Da,Db,Dc,Dd,De,Df,Dg,Dh,Di,Dj,Dk,Dl,Dm,Dn,Dp,Dq,Dr,Ds,Dt,Du,Dv,Dw,Dx,Dy,Dz,D0,D1,D2,
 D3,D4,D5,D6,D7,D8,D9,Ea,Eb,Ec,Ed,Ee,Ef,Eg,Eh,Ei,Ej,Ek,El,Em,En,Eo,Ep,Er,Es,Et,Eu,Ev,Ew,
 Ex,Ey,Ez,E0,E1,E2,E3,E4,E5,E6,E7,E8,E9,Fa,Fb,Fc,Fd,Fe,Ff,Fg,Fh,Fi,Fj,Fk,Fl,Fm,Fn,Fo,Fp,
 Fq,Fr,Fs,Ft,Fu,Fv,Fw,Fx,Fy,Fz,F0,F1,F2,F3,F4,F5,F6,F7,F8,F9,Ga,Gb,Gc,Gd,Ge,Gf,Gg,Gh,Gi,
 Gj,Gk,Gl,Gm,Gn,Gp,Gq,Gr,Gs,Gt,Gu,Gv,Gw,Gx,Gy,Gz,G0,G1,G2,G3,G4,G5,G6,G7,G8,G9,Ha,Hb,Hc,
 Hd,He,Hf,Hg,Hh,Hi,Jd,Je,Jf,Jg,Jh,Ji,Jj,Jk,Jl,Jm,Jn,Jo,Jp,Jq,Jr,Js,Jt,Ju,Jv,Jw,Jx,Jy,Jz,
 J0,J1,J2,J3,J4,J5,J6,J7,J8,J9,Ka,Kb,Kc,Kd,Ke,Kf,Kg,Kh,Ki,Kj,Kk,Kl,Km,Kn,Ko,Kp,Kq,Kr,Ks,
 Kt,Ku,Kv,Kw,Kx,Ky,Kz,K0,K1,K2,K3,K4],[]⟩ ((w.setCell ⟨BW,k,none⟩ (.int .u32 (u (y16 + Sha.sig0 y15 + y7 + Sha.sig1 y2)))).drew)) :
    Code.wp Try.prog (mixReg 10) Q ⟨#[
 Lh,Aa,Ab,Ac,K5,(.pointer (some ⟨BW,0,none⟩)),Ad,(.int .i64 (k : Int)),K8,K9,La,Lb,Lc,Ld,Le,Lf,K6,Hj,Hk,Ae,Af,Ag,Ah,Ai,Aj,Ak,Al,
 Am,An,Ao,Ap,Aq,Ar,As,Au,Av,Aw,Ax,Ay,Az,A0,A1,A2,A3,A4,A5,A6,A7,A8,A9,Ba,Bb,Bc,Bd,Be,Bf,Bg,Bh,Bi,Bj,
 Bk,Bl,Bm,Bn,Bo,Bp,Bq,Hl,Hm,Hn,Ho,Hp,Hq,Hr,Hs,Ht,Hu,Hv,Hw,Hx,Hy,Hz,H0,H1,H2,H3,H4,H5,H6,H7,H8,H9,Ia,
 Ib,Ic,Ie,Ig,Ih,Ii,Ij,Ik,Il,Im,Io,Ip,Iq,Ir,Is,It,Iu,Iv,Iw,Ix,Iy,Iz,I0,I1,I2,I3,I4,I5,I6,Br,
 Bs,Bt,Bu,I7,I8,I9,Ja,Jb,Jc,Bv,Bw,Bx,Bz,B0,B1,B2,B3,B4,B5,B6,B7,B8,B9,Ca,Cb,Cc,Cd,Ce,Cf,
 Cg,Ch,Ci,Cj,Ck,Cl,Cm,Cn,Co,Cp,Cq,Cr,Cs,Ct,Cu,Cv,Cw,Cx,Cy,Cz,C0,C1,C2,C3,C4,C5,C6,C7,C8,
 C9,Da,Db,Dc,Dd,De,Df,Dg,Dh,Di,Dj,Dk,Dl,Dm,Dn,Dp,Dq,Dr,Ds,Dt,Du,Dv,Dw,Dx,Dy,Dz,D0,D1,D2,
 D3,D4,D5,D6,D7,D8,D9,Ea,Eb,Ec,Ed,Ee,Ef,Eg,Eh,Ei,Ej,Ek,El,Em,En,Eo,Ep,Er,Es,Et,Eu,Ev,Ew,
 Ex,Ey,Ez,E0,E1,E2,E3,E4,E5,E6,E7,E8,E9,Fa,Fb,Fc,Fd,Fe,Ff,Fg,Fh,Fi,Fj,Fk,Fl,Fm,Fn,Fo,Fp,
 Fq,Fr,Fs,Ft,Fu,Fv,Fw,Fx,Fy,Fz,F0,F1,F2,F3,F4,F5,F6,F7,F8,F9,Ga,Gb,Gc,Gd,Ge,Gf,Gg,Gh,Gi,
 Gj,Gk,Gl,Gm,Gn,Gp,Gq,Gr,Gs,Gt,Gu,Gv,Gw,Gx,Gy,Gz,G0,G1,G2,G3,G4,G5,G6,G7,G8,G9,Ha,Hb,Hc,
 Hd,He,Hf,Hg,Hh,Hi,Jd,Je,Jf,Jg,Jh,Ji,Jj,Jk,Jl,Jm,Jn,Jo,Jp,Jq,Jr,Js,Jt,Ju,Jv,Jw,Jx,Jy,Jz,
 J0,J1,J2,J3,J4,J5,J6,J7,J8,J9,Ka,Kb,Kc,Kd,Ke,Kf,Kg,Kh,Ki,Kj,Kk,Kl,Km,Kn,Ko,Kp,Kq,Kr,Ks,
 Kt,Ku,Kv,Kw,Kx,Ky,Kz,K0,K1,K2,K3,K4],[]⟩ w := by
  conv => arg 2; whnf
  have q4 : (k : Int) < 64 := by omega
  have s16 : IntKind.i64.wrap ((k : Int) - 16) = (k : Int) - 16 := IntWalk.i64_in _ (by omega)
  have p16 : 0 ≤ (k : Int) - 16 := by omega
  have r16 : 16 ≤ (k : Int) := by omega
  have q16 : (k : Int) - 16 < 64 := by omega
  have t16 : (k : Int) < 80 := by omega
  have n16 : ((k : Int) - 16).toNat = k - 16 := by omega
  have s15 : IntKind.i64.wrap ((k : Int) - 15) = (k : Int) - 15 := IntWalk.i64_in _ (by omega)
  have p15 : 0 ≤ (k : Int) - 15 := by omega
  have r15 : 15 ≤ (k : Int) := by omega
  have q15 : (k : Int) - 15 < 64 := by omega
  have t15 : (k : Int) < 79 := by omega
  have n15 : ((k : Int) - 15).toNat = k - 15 := by omega
  have s7 : IntKind.i64.wrap ((k : Int) - 7) = (k : Int) - 7 := IntWalk.i64_in _ (by omega)
  have p7 : 0 ≤ (k : Int) - 7 := by omega
  have r7 : 7 ≤ (k : Int) := by omega
  have q7 : (k : Int) - 7 < 64 := by omega
  have t7 : (k : Int) < 71 := by omega
  have n7 : ((k : Int) - 7).toNat = k - 7 := by omega
  have s2 : IntKind.i64.wrap ((k : Int) - 2) = (k : Int) - 2 := IntWalk.i64_in _ (by omega)
  have p2 : 0 ≤ (k : Int) - 2 := by omega
  have r2 : 2 ≤ (k : Int) := by omega
  have q2 : (k : Int) - 2 < 64 := by omega
  have t2 : (k : Int) < 66 := by omega
  have n2 : ((k : Int) - 2).toNat = k - 2 := by omega
  refine wp_region_still_tail 23 (by kernel_rfl) (by kernel_rfl) ?_
  simp only [List.take_succ_cons, List.take_zero, List.drop_succ_cons, List.drop_zero]
  repeat still_step
  still_call (sig0_any y15 _)
  repeat still_step
  still_call (sig1_any y2 _)
  repeat still_step
  refine wpStill_nil ?_
  clear s16 s15 s7 s2 n16 n15 n7 n2
  change wpList _ _ _ _ _ w.drew
  go_wp2
  exact hQ _ _ _ _ _ _ _ _ _ _ _ _ _ _ _ _ _ _ _ _ _ _ _

set_option maxRecDepth 100000 in
set_option maxHeartbeats 2000000 in
theorem mixLoads {Aa Ab Ac K5 Lg Ad K7 K8 K9 La Lb Lc Ld Le Lf K6 Hj Hk Ae Af Ag Ah Ai Aj Ak Al Am An Ao Ap Aq Ar As Au Av Aw Ax Ay Az A0 A1 A2 A3 A4 A5 A6 A7 A8 A9 Ba Bb Bc Bd Be Bf Bg Bh Bi Bj Bk Bl Bm Bn Bo Bp Bq Hl Hm Hn Ho Hp Hq Hr Hs Ht Hu Hv Hw Hx Hy Hz H0 H1 H2 H3 H4 H5 H6 H7 H8 H9 Ia Ib Ic Ie Ig Ih Ii Ij Ik Il Im Io Ip Iq Ir Is It Iu Iv Iw Ix Iy Iz I0 I1 I2 I3 I4 I5 I6 Br Bs Bt Bu I7 I8 I9 Ja Jb Jc Bv Bw Bx Bz B0 B1 B2 B3 B4 B5 B6 B7 B8 B9 Ca Cb Cc Cd Ce Cf Cg Ch Ci Cj Ck Cl Cm Cn Co Cp Cq Cr Cs Ct Cu Cv Cw Cx Cy Cz C0 C1 C2 C3 C4 C5 C6 C7 C8 C9 Da Db Dc Dd De Df Dg Dh Di Dj Dk Dl Dm Dn Dp Dq Dr Ds Dt Du Dv Dw Dx Dy Dz D0 D1 D2 D3 D4 D5 D6 D7 D8 D9 Ea Eb Ec Ed Ee Ef Eg Eh Ei Ej Ek El Em En Eo Ep Er Es Et Eu Ev Ew Ex Ey Ez E0 E1 E2 E3 E4 E5 E6 E7 E8 E9 Fa Fb Fc Fd Fe Ff Fg Fh Fi Fj Fk Fl Fm Fn Fo Fp Fq Fr Fs Ft Fu Fv Fw Fx Fy Fz F0 F1 F2 F3 F4 F5 F6 F7 F8 F9 Ga Gb Gc Gd Ge Gf Gg Gh Gi Gj Gk Gl Gm Gn Gp Gq Gr Gs Gt Gu Gv Gw Gx Gy Gz G0 G1 G2 G3 G4 G5 G6 G7 G8 G9 Ha Hb Hc Hd He Hf Hg Hh Hi Jd Je Jf Jg Jh Ji Jj Jk Jl Jm Jn Jo Jp Jq Jr Js Jt Ju Jv Jw Jx Jy Jz J0 J1 J2 J3 J4 J5 J6 J7 J8 J9 Ka Kb Kc Kd Ke Kf Kg Kh Ki Kj Kk Kl Km Kn Ko Kp Kq Kr Ks Kt Ku Kv Kw Kx Ky Kz K0 K1 K2 K3 K4 : Value} (s : Sha.S8) (g : Nat) {w : World} (c0 : w.cell? ⟨g, 0, none⟩ = some (.int .u32 (u s.a))) (c1 : w.cell? ⟨g, 1, none⟩ = some (.int .u32 (u s.b))) (c2 : w.cell? ⟨g, 2, none⟩ = some (.int .u32 (u s.c))) (c3 : w.cell? ⟨g, 3, none⟩ = some (.int .u32 (u s.d))) (c4 : w.cell? ⟨g, 4, none⟩ = some (.int .u32 (u s.e))) (c5 : w.cell? ⟨g, 5, none⟩ = some (.int .u32 (u s.f))) (c6 : w.cell? ⟨g, 6, none⟩ = some (.int .u32 (u s.g))) (c7 : w.cell? ⟨g, 7, none⟩ = some (.int .u32 (u s.h))) {Q : Exit → Act → World → Prop}
    (hQ : ∀ (L5 L6 L7 L8 L9 Ma Mb Mc Md Me Mf Mg Mh Mi Mj Mk Ml Mm Mn Mo Mp Mq Mr Ms Mt Mu Mv Mw Mx My Mz M0 : Value) (m : Nat), Q .normal ⟨#[
 (.pointer (some ⟨g,0,none⟩)),Aa,Ab,Ac,K5,Lg,Ad,K7,.int .u32 (u s.a),.int .u32 (u s.b),.int .u32 (u s.c),.int .u32 (u s.d),.int .u32 (u s.e),.int .u32 (u s.f),.int .u32 (u s.g),
 .int .u32 (u s.h),K6,Hj,Hk,Ae,Af,Ag,Ah,Ai,Aj,Ak,Al,Am,An,Ao,Ap,Aq,Ar,As,Au,Av,Aw,Ax,Ay,Az,A0,A1,A2,A3,A4,A5,
 A6,A7,A8,A9,Ba,Bb,Bc,Bd,Be,Bf,Bg,Bh,Bi,Bj,Bk,Bl,Bm,Bn,Bo,Bp,Bq,Hl,Hm,Hn,Ho,Hp,Hq,Hr,Hs,Ht,Hu,Hv,Hw,
 Hx,Hy,Hz,H0,H1,H2,H3,H4,H5,H6,H7,L5,L6,L7,L8,L9,Ma,Mb,Mc,Md,Me,Mf,Mg,Mh,Mi,Mj,Mk,Ml,Mm,Mn,Mo,Mp,
 Mq,Mr,Ms,Mt,Mu,Mv,Mw,Mx,My,Mz,M0,Br,Bs,Bt,Bu,I7,I8,I9,Ja,Jb,Jc,Bv,Bw,Bx,Bz,B0,B1,B2,B3,
 B4,B5,B6,B7,B8,B9,Ca,Cb,Cc,Cd,Ce,Cf,Cg,Ch,Ci,Cj,Ck,Cl,Cm,Cn,Co,Cp,Cq,Cr,Cs,Ct,Cu,Cv,Cw,
 Cx,Cy,Cz,C0,C1,C2,C3,C4,C5,C6,C7,C8,C9,Da,Db,Dc,Dd,De,Df,Dg,Dh,Di,Dj,Dk,Dl,Dm,Dn,Dp,Dq,
 Dr,Ds,Dt,Du,Dv,Dw,Dx,Dy,Dz,D0,D1,D2,D3,D4,D5,D6,D7,D8,D9,Ea,Eb,Ec,Ed,Ee,Ef,Eg,Eh,Ei,Ej,
 Ek,El,Em,En,Eo,Ep,Er,Es,Et,Eu,Ev,Ew,Ex,Ey,Ez,E0,E1,E2,E3,E4,E5,E6,E7,E8,E9,Fa,Fb,Fc,Fd,
 Fe,Ff,Fg,Fh,Fi,Fj,Fk,Fl,Fm,Fn,Fo,Fp,Fq,Fr,Fs,Ft,Fu,Fv,Fw,Fx,Fy,Fz,F0,F1,F2,F3,F4,F5,F6,
 F7,F8,F9,Ga,Gb,Gc,Gd,Ge,Gf,Gg,Gh,Gi,Gj,Gk,Gl,Gm,Gn,Gp,Gq,Gr,Gs,Gt,Gu,Gv,Gw,Gx,Gy,Gz,G0,
 G1,G2,G3,G4,G5,G6,G7,G8,G9,Ha,Hb,Hc,Hd,He,Hf,Hg,Hh,Hi,Jd,Je,Jf,Jg,Jh,Ji,Jj,Jk,Jl,Jm,Jn,
 Jo,Jp,Jq,Jr,Js,Jt,Ju,Jv,Jw,Jx,Jy,Jz,J0,J1,J2,J3,J4,J5,J6,J7,J8,J9,Ka,Kb,Kc,Kd,Ke,Kf,Kg,
 Kh,Ki,Kj,Kk,Kl,Km,Kn,Ko,Kp,Kq,Kr,Ks,Kt,Ku,Kv,Kw,Kx,Ky,Kz,K0,K1,K2,K3,K4],[]⟩ (w.drewN m)) :
    Code.wp Try.prog (mixReg 11) Q ⟨#[
 (.pointer (some ⟨g,0,none⟩)),Aa,Ab,Ac,K5,Lg,Ad,K7,K8,K9,La,Lb,Lc,Ld,Le,Lf,K6,Hj,Hk,Ae,Af,Ag,Ah,Ai,Aj,Ak,Al,Am,An,Ao,
 Ap,Aq,Ar,As,Au,Av,Aw,Ax,Ay,Az,A0,A1,A2,A3,A4,A5,A6,A7,A8,A9,Ba,Bb,Bc,Bd,Be,Bf,Bg,Bh,Bi,Bj,Bk,Bl,Bm,
 Bn,Bo,Bp,Bq,Hl,Hm,Hn,Ho,Hp,Hq,Hr,Hs,Ht,Hu,Hv,Hw,Hx,Hy,Hz,H0,H1,H2,H3,H4,H5,H6,H7,H8,H9,Ia,Ib,Ic,Ie,
 Ig,Ih,Ii,Ij,Ik,Il,Im,Io,Ip,Iq,Ir,Is,It,Iu,Iv,Iw,Ix,Iy,Iz,I0,I1,I2,I3,I4,I5,I6,Br,Bs,Bt,
 Bu,I7,I8,I9,Ja,Jb,Jc,Bv,Bw,Bx,Bz,B0,B1,B2,B3,B4,B5,B6,B7,B8,B9,Ca,Cb,Cc,Cd,Ce,Cf,Cg,Ch,
 Ci,Cj,Ck,Cl,Cm,Cn,Co,Cp,Cq,Cr,Cs,Ct,Cu,Cv,Cw,Cx,Cy,Cz,C0,C1,C2,C3,C4,C5,C6,C7,C8,C9,Da,
 Db,Dc,Dd,De,Df,Dg,Dh,Di,Dj,Dk,Dl,Dm,Dn,Dp,Dq,Dr,Ds,Dt,Du,Dv,Dw,Dx,Dy,Dz,D0,D1,D2,D3,D4,
 D5,D6,D7,D8,D9,Ea,Eb,Ec,Ed,Ee,Ef,Eg,Eh,Ei,Ej,Ek,El,Em,En,Eo,Ep,Er,Es,Et,Eu,Ev,Ew,Ex,Ey,
 Ez,E0,E1,E2,E3,E4,E5,E6,E7,E8,E9,Fa,Fb,Fc,Fd,Fe,Ff,Fg,Fh,Fi,Fj,Fk,Fl,Fm,Fn,Fo,Fp,Fq,Fr,
 Fs,Ft,Fu,Fv,Fw,Fx,Fy,Fz,F0,F1,F2,F3,F4,F5,F6,F7,F8,F9,Ga,Gb,Gc,Gd,Ge,Gf,Gg,Gh,Gi,Gj,Gk,
 Gl,Gm,Gn,Gp,Gq,Gr,Gs,Gt,Gu,Gv,Gw,Gx,Gy,Gz,G0,G1,G2,G3,G4,G5,G6,G7,G8,G9,Ha,Hb,Hc,Hd,He,
 Hf,Hg,Hh,Hi,Jd,Je,Jf,Jg,Jh,Ji,Jj,Jk,Jl,Jm,Jn,Jo,Jp,Jq,Jr,Js,Jt,Ju,Jv,Jw,Jx,Jy,Jz,J0,J1,
 J2,J3,J4,J5,J6,J7,J8,J9,Ka,Kb,Kc,Kd,Ke,Kf,Kg,Kh,Ki,Kj,Kk,Kl,Km,Kn,Ko,Kp,Kq,Kr,Ks,Kt,Ku,
 Kv,Kw,Kx,Ky,Kz,K0,K1,K2,K3,K4],[]⟩ w := by
  conv => arg 2; whnf
  go_quiet (fail)
  exact hQ _ _ _ _ _ _ _ _ _ _ _ _ _ _ _ _ _ _ _ _ _ _ _ _ _ _ _ _ _ _ _ _ _

set_option maxRecDepth 100000 in
set_option maxHeartbeats 2000000 in
theorem mixCuts {Lh Aa Ab Ac Ad K7 K8 K9 La Lb Lc Ld Le Lf Hj Hk Ae Af Ag Ah Ai Aj Ak Al Am An Ao Ap Aq Ar As Au Av Aw Ax Ay Az A0 A1 A2 A3 A4 A5 A6 A7 A8 A9 Ba Bb Bc Bd Be Bf Bg Bh Bi Bj Bk Bl Bm Bn Bo Bp Bq Hl Hm Hn Ho Hp Hq Hr Hs Ht Hu Hv Hw Hx Hy Hz H0 H1 H2 H3 H4 H5 H6 H7 H8 H9 Ia Ib Ic Ie Ig Ih Ii Ij Ik Il Im Io Ip Iq Ir Is It Iu Iv Iw Ix Iy Iz I0 I1 I2 I3 I4 I5 I6 Br Bs Bt Bu I7 I8 I9 Ja Jb Jc Bv Bw Bx Bz B0 B1 B2 B3 B4 B5 B6 B7 B8 B9 Ca Cb Cc Cd Ce Cf Cg Ch Ci Cj Ck Cl Cm Cn Co Cp Cq Cr Cs Ct Cu Cv Cw Cx Cy Cz C0 C1 C2 C3 C4 C5 C6 C7 C8 C9 Da Db Dc Dd De Df Dg Dh Di Dj Dk Dl Dm Dn Dp Dq Dr Ds Dt Du Dv Dw Dx Dy Dz D0 D1 D2 D3 D4 D5 D6 D7 D8 D9 Ea Eb Ec Ed Ee Ef Eg Eh Ei Ej Ek El Em En Eo Ep Er Es Et Eu Ev Ew Ex Ey Ez E0 E1 E2 E3 E4 E5 E6 E7 E8 E9 Fa Fb Fc Fd Fe Ff Fg Fh Fi Fj Fk Fl Fm Fn Fo Fp Fq Fr Fs Ft Fu Fv Fw Fx Fy Fz F0 F1 F2 F3 F4 F5 F6 F7 F8 F9 Ga Gb Gc Gd Ge Gf Gg Gh Gi Gj Gk Gl Gm Gn Gp Gq Gr Gs Gt Gu Gv Gw Gx Gy Gz G0 G1 G2 G3 G4 G5 G6 G7 G8 G9 Ha Hb Hc Hd He Hf Hg Hh Hi Jd Je Jf Jg Jh Ji Jj Jk Jl Jm Jn Jo Jp Jq Jr Js Jt Ju Jv Jw Jx Jy Jz J0 J1 J2 J3 J4 J5 J6 J7 J8 J9 Ka Kb Kc Kd Ke Kf Kg Kh Ki Kj Kk Kl Km Kn Ko Kp Kq Kr Ks Kt Ku Kv Kw Kx Ky Kz K0 K1 K2 K3 K4 : Value} (BT BW k : Nat) (hk : k ≤ 56) {w : World} {Q : Exit → Act → World → Prop}
    (hQ : ∀ (M1 M2 M3 M4 M5 M6 : Value) (m : Nat), Q .normal ⟨#[
 Lh,Aa,Ab,Ac,(.pointer (some ⟨BT,0,none⟩)),(.pointer (some ⟨BW,0,none⟩)),Ad,K7,K8,K9,La,Lb,Lc,Ld,Le,Lf,(.int .i64 (k : Int)),.pointer (some ⟨BT,k,none⟩),.pointer (some ⟨BW,k,none⟩),
 Ae,Af,Ag,Ah,Ai,Aj,Ak,Al,Am,An,Ao,Ap,Aq,Ar,As,Au,Av,Aw,Ax,Ay,Az,A0,A1,A2,A3,A4,A5,A6,A7,A8,A9,Ba,Bb,
 Bc,Bd,Be,Bf,Bg,Bh,Bi,Bj,Bk,Bl,Bm,Bn,Bo,Bp,Bq,Hl,Hm,Hn,Ho,Hp,Hq,Hr,Hs,Ht,Hu,Hv,Hw,Hx,Hy,Hz,H0,H1,H2,
 H3,H4,H5,H6,H7,H8,H9,Ia,Ib,Ic,Ie,Ig,Ih,Ii,Ij,Ik,Il,Im,Io,Ip,Iq,Ir,Is,It,Iu,Iv,Iw,Ix,Iy,Iz,I0,
 I1,I2,I3,I4,I5,I6,Br,Bs,Bt,Bu,M1,M2,M3,M4,M5,M6,Bv,Bw,Bx,Bz,B0,B1,B2,B3,B4,B5,B6,B7,B8,
 B9,Ca,Cb,Cc,Cd,Ce,Cf,Cg,Ch,Ci,Cj,Ck,Cl,Cm,Cn,Co,Cp,Cq,Cr,Cs,Ct,Cu,Cv,Cw,Cx,Cy,Cz,C0,C1,
 C2,C3,C4,C5,C6,C7,C8,C9,Da,Db,Dc,Dd,De,Df,Dg,Dh,Di,Dj,Dk,Dl,Dm,Dn,Dp,Dq,Dr,Ds,Dt,Du,Dv,
 Dw,Dx,Dy,Dz,D0,D1,D2,D3,D4,D5,D6,D7,D8,D9,Ea,Eb,Ec,Ed,Ee,Ef,Eg,Eh,Ei,Ej,Ek,El,Em,En,Eo,
 Ep,Er,Es,Et,Eu,Ev,Ew,Ex,Ey,Ez,E0,E1,E2,E3,E4,E5,E6,E7,E8,E9,Fa,Fb,Fc,Fd,Fe,Ff,Fg,Fh,Fi,
 Fj,Fk,Fl,Fm,Fn,Fo,Fp,Fq,Fr,Fs,Ft,Fu,Fv,Fw,Fx,Fy,Fz,F0,F1,F2,F3,F4,F5,F6,F7,F8,F9,Ga,Gb,
 Gc,Gd,Ge,Gf,Gg,Gh,Gi,Gj,Gk,Gl,Gm,Gn,Gp,Gq,Gr,Gs,Gt,Gu,Gv,Gw,Gx,Gy,Gz,G0,G1,G2,G3,G4,G5,
 G6,G7,G8,G9,Ha,Hb,Hc,Hd,He,Hf,Hg,Hh,Hi,Jd,Je,Jf,Jg,Jh,Ji,Jj,Jk,Jl,Jm,Jn,Jo,Jp,Jq,Jr,Js,
 Jt,Ju,Jv,Jw,Jx,Jy,Jz,J0,J1,J2,J3,J4,J5,J6,J7,J8,J9,Ka,Kb,Kc,Kd,Ke,Kf,Kg,Kh,Ki,Kj,Kk,Kl,
 Km,Kn,Ko,Kp,Kq,Kr,Ks,Kt,Ku,Kv,Kw,Kx,Ky,Kz,K0,K1,K2,K3,K4],[]⟩ (w.drewN m)) :
    Code.wp Try.prog (mixReg 15) Q ⟨#[
 Lh,Aa,Ab,Ac,(.pointer (some ⟨BT,0,none⟩)),(.pointer (some ⟨BW,0,none⟩)),Ad,K7,K8,K9,La,Lb,Lc,Ld,Le,Lf,(.int .i64 (k : Int)),Hj,Hk,Ae,Af,Ag,Ah,
 Ai,Aj,Ak,Al,Am,An,Ao,Ap,Aq,Ar,As,Au,Av,Aw,Ax,Ay,Az,A0,A1,A2,A3,A4,A5,A6,A7,A8,A9,Ba,Bb,Bc,Bd,Be,Bf,
 Bg,Bh,Bi,Bj,Bk,Bl,Bm,Bn,Bo,Bp,Bq,Hl,Hm,Hn,Ho,Hp,Hq,Hr,Hs,Ht,Hu,Hv,Hw,Hx,Hy,Hz,H0,H1,H2,H3,H4,H5,H6,
 H7,H8,H9,Ia,Ib,Ic,Ie,Ig,Ih,Ii,Ij,Ik,Il,Im,Io,Ip,Iq,Ir,Is,It,Iu,Iv,Iw,Ix,Iy,Iz,I0,I1,I2,I3,
 I4,I5,I6,Br,Bs,Bt,Bu,I7,I8,I9,Ja,Jb,Jc,Bv,Bw,Bx,Bz,B0,B1,B2,B3,B4,B5,B6,B7,B8,B9,Ca,Cb,
 Cc,Cd,Ce,Cf,Cg,Ch,Ci,Cj,Ck,Cl,Cm,Cn,Co,Cp,Cq,Cr,Cs,Ct,Cu,Cv,Cw,Cx,Cy,Cz,C0,C1,C2,C3,C4,
 C5,C6,C7,C8,C9,Da,Db,Dc,Dd,De,Df,Dg,Dh,Di,Dj,Dk,Dl,Dm,Dn,Dp,Dq,Dr,Ds,Dt,Du,Dv,Dw,Dx,Dy,
 Dz,D0,D1,D2,D3,D4,D5,D6,D7,D8,D9,Ea,Eb,Ec,Ed,Ee,Ef,Eg,Eh,Ei,Ej,Ek,El,Em,En,Eo,Ep,Er,Es,
 Et,Eu,Ev,Ew,Ex,Ey,Ez,E0,E1,E2,E3,E4,E5,E6,E7,E8,E9,Fa,Fb,Fc,Fd,Fe,Ff,Fg,Fh,Fi,Fj,Fk,Fl,
 Fm,Fn,Fo,Fp,Fq,Fr,Fs,Ft,Fu,Fv,Fw,Fx,Fy,Fz,F0,F1,F2,F3,F4,F5,F6,F7,F8,F9,Ga,Gb,Gc,Gd,Ge,
 Gf,Gg,Gh,Gi,Gj,Gk,Gl,Gm,Gn,Gp,Gq,Gr,Gs,Gt,Gu,Gv,Gw,Gx,Gy,Gz,G0,G1,G2,G3,G4,G5,G6,G7,G8,
 G9,Ha,Hb,Hc,Hd,He,Hf,Hg,Hh,Hi,Jd,Je,Jf,Jg,Jh,Ji,Jj,Jk,Jl,Jm,Jn,Jo,Jp,Jq,Jr,Js,Jt,Ju,Jv,
 Jw,Jx,Jy,Jz,J0,J1,J2,J3,J4,J5,J6,J7,J8,J9,Ka,Kb,Kc,Kd,Ke,Kf,Kg,Kh,Ki,Kj,Kk,Kl,Km,Kn,Ko,
 Kp,Kq,Kr,Ks,Kt,Ku,Kv,Kw,Kx,Ky,Kz,K0,K1,K2,K3,K4],[]⟩ w := by
  conv => arg 2; whnf
  have sl := run_sliceAt_from (P := Try.prog) 179 161 BT 0 64 k (by omega) Try.underlying179 (by kernel_rfl)
  have sl' := run_sliceAt_from (P := Try.prog) 179 161 BW 0 64 k (by omega) Try.underlying179 (by kernel_rfl)
  have ar := fun a => run_arrayAt (P := Try.prog) 162 161 a 8 (64 - k) (64 - k) (by omega) Try.underlying162
  rw [Nat.zero_add] at sl sl'
  go_quiet (fail)
  exact hQ _ _ _ _ _ _ _

set_option maxRecDepth 100000 in
set_option maxHeartbeats 2000000 in
theorem mixStore0 {Aa Ab Ac K5 Lg Ad K7 K9 La Lb Lc Ld Le Lf K6 Hj Hk Ae Af Ag Ah Ai Aj Ak Al Am An Ao Ap Aq Ar As Au Av Aw Ax Ay Az A0 A1 A2 A3 A4 A5 A6 A7 A8 A9 Ba Bb Bc Bd Be Bf Bg Bh Bi Bj Bk Bl Bm Bn Bo Bp Bq Hl Hm Hn Ho Hp Hq Hr Hs Ht Hu Hv Hw Hx Hy Hz H0 H1 H2 H3 H4 H5 H6 H7 H8 H9 Ia Ib Ic Ie Ig Ih Ii Ij Ik Il Im Io Ip Iq Ir Is It Iu Iv Iw Ix Iy Iz I0 I1 I2 I3 I4 I5 I6 Br Bs Bt Bu I7 I8 I9 Ja Jb Jc Bv Bw Bx Bz B0 B1 B2 B3 B4 B5 B6 B7 B8 B9 Ca Cb Cc Cd Ce Cf Cg Ch Ci Cj Ck Cl Cm Cn Co Cp Cq Cr Cs Ct Cu Cv Cw Cx Cy Cz C0 C1 C2 C3 C4 C5 C6 C7 C8 C9 Da Db Dc Dd De Df Dg Dh Di Dj Dk Dl Dm Dn Dp Dq Dr Ds Dt Du Dv Dw Dx Dy Dz D0 D1 D2 D3 D4 D5 D6 D7 D8 D9 Ea Eb Ec Ed Ee Ef Eg Eh Ei Ej Ek El Em En Eo Ep Er Es Et Eu Ev Ew Ex Ey Ez E0 E1 E2 E3 E4 E5 E6 E7 E8 E9 Fa Fb Fc Fd Fe Ff Fg Fh Fi Fj Fk Fl Fm Fn Fo Fp Fq Fr Fs Ft Fu Fv Fw Fx Fy Fz F0 F1 F2 F3 F4 F5 F6 F7 F8 F9 Ga Gb Gc Gd Ge Gf Gg Gh Gi Gj Gk Gl Gm Gn Gp Gq Gr Gs Gt Gu Gv Gw Gx Gy Gz G0 G1 G2 G3 G4 G5 G6 G7 G8 G9 Ha Hb Hc Hd He Hf Hg Hh Hi Jd Je Jf Jg Jh Ji Jj Jk Jl Jm Jn Jo Jp Jq Jr Js Jt Ju Jv Jw Jx Jy Jz J0 J1 J2 J3 J4 J5 J6 J7 J8 J9 Ka Kb Kc Kd Ke Kf Kg Kh Ki Kj Kk Kl Km Kn Ko Kp Kq Kr Ks Kt Ku Kv Kw Kx Ky Kz K0 K1 K2 K3 K4 : Value} (x y : BitVec 32) (g : Nat) {w : World} (c : w.cell? ⟨g, 0, none⟩ = some (.int .u32 (u x))) (cf : w.frozen? ⟨g, 0, none⟩ = false) {Q : Exit → Act → World → Prop}
    (hQ : ∀ (M7 M8 M9 Na Nb Nc Nd Nf : Value), Q .normal ⟨#[
 (.pointer (some ⟨g,0,none⟩)),Aa,Ab,Ac,K5,Lg,Ad,K7,(.int .u32 (u y)),K9,La,Lb,Lc,Ld,Le,Lf,K6,Hj,Hk,Ae,Af,Ag,Ah,Ai,Aj,Ak,Al,Am,
 An,Ao,Ap,Aq,Ar,As,Au,Av,Aw,Ax,Ay,Az,A0,A1,A2,A3,A4,A5,A6,A7,A8,A9,Ba,Bb,Bc,Bd,Be,Bf,Bg,Bh,Bi,Bj,Bk,
 Bl,Bm,Bn,Bo,Bp,Bq,Hl,Hm,Hn,Ho,Hp,Hq,Hr,Hs,Ht,Hu,Hv,Hw,Hx,Hy,Hz,H0,H1,H2,H3,H4,H5,H6,H7,H8,H9,Ia,Ib,
 Ic,Ie,Ig,Ih,Ii,Ij,Ik,Il,Im,Io,Ip,Iq,Ir,Is,It,Iu,Iv,Iw,Ix,Iy,Iz,I0,I1,I2,I3,I4,I5,I6,Br,
 Bs,Bt,Bu,I7,I8,I9,Ja,Jb,Jc,Bv,Bw,Bx,Bz,B0,B1,B2,B3,B4,B5,B6,B7,B8,B9,Ca,Cb,Cc,Cd,Ce,Cf,
 Cg,Ch,Ci,Cj,Ck,Cl,Cm,Cn,Co,Cp,Cq,Cr,Cs,Ct,Cu,Cv,Cw,Cx,Cy,Cz,C0,C1,C2,C3,C4,C5,C6,C7,C8,
 C9,Da,Db,Dc,Dd,De,Df,Dg,Dh,Di,Dj,Dk,Dl,Dm,Dn,Dp,Dq,Dr,Ds,Dt,Du,Dv,Dw,Dx,Dy,Dz,D0,D1,D2,
 D3,D4,D5,D6,D7,D8,D9,Ea,Eb,Ec,Ed,Ee,Ef,Eg,Eh,Ei,Ej,Ek,El,Em,En,Eo,Ep,Er,Es,Et,Eu,Ev,Ew,
 Ex,Ey,Ez,E0,E1,E2,E3,E4,E5,E6,E7,E8,E9,Fa,Fb,Fc,Fd,Fe,Ff,Fg,Fh,Fi,Fj,Fk,Fl,Fm,Fn,Fo,Fp,
 Fq,Fr,Fs,Ft,Fu,Fv,Fw,Fx,Fy,Fz,F0,F1,F2,F3,F4,F5,F6,F7,F8,F9,Ga,Gb,Gc,Gd,Ge,Gf,Gg,Gh,Gi,
 Gj,Gk,Gl,Gm,Gn,Gp,Gq,Gr,Gs,Gt,Gu,Gv,Gw,Gx,Gy,Gz,G0,G1,G2,G3,G4,G5,G6,G7,G8,G9,Ha,Hb,Hc,
 Hd,He,Hf,Hg,Hh,Hi,M7,M8,M9,Na,Nb,Nc,Nd,Nf,Jl,Jm,Jn,Jo,Jp,Jq,Jr,Js,Jt,Ju,Jv,Jw,Jx,Jy,Jz,
 J0,J1,J2,J3,J4,J5,J6,J7,J8,J9,Ka,Kb,Kc,Kd,Ke,Kf,Kg,Kh,Ki,Kj,Kk,Kl,Km,Kn,Ko,Kp,Kq,Kr,Ks,
 Kt,Ku,Kv,Kw,Kx,Ky,Kz,K0,K1,K2,K3,K4],[]⟩ ((w.setCell ⟨g,0,none⟩ (.int .u32 (u (x + y)))).drew)) :
    Code.wp Try.prog (mixReg 32) Q ⟨#[
 (.pointer (some ⟨g,0,none⟩)),Aa,Ab,Ac,K5,Lg,Ad,K7,(.int .u32 (u y)),K9,La,Lb,Lc,Ld,Le,Lf,K6,Hj,Hk,Ae,Af,Ag,Ah,Ai,Aj,Ak,Al,Am,
 An,Ao,Ap,Aq,Ar,As,Au,Av,Aw,Ax,Ay,Az,A0,A1,A2,A3,A4,A5,A6,A7,A8,A9,Ba,Bb,Bc,Bd,Be,Bf,Bg,Bh,Bi,Bj,Bk,
 Bl,Bm,Bn,Bo,Bp,Bq,Hl,Hm,Hn,Ho,Hp,Hq,Hr,Hs,Ht,Hu,Hv,Hw,Hx,Hy,Hz,H0,H1,H2,H3,H4,H5,H6,H7,H8,H9,Ia,Ib,
 Ic,Ie,Ig,Ih,Ii,Ij,Ik,Il,Im,Io,Ip,Iq,Ir,Is,It,Iu,Iv,Iw,Ix,Iy,Iz,I0,I1,I2,I3,I4,I5,I6,Br,
 Bs,Bt,Bu,I7,I8,I9,Ja,Jb,Jc,Bv,Bw,Bx,Bz,B0,B1,B2,B3,B4,B5,B6,B7,B8,B9,Ca,Cb,Cc,Cd,Ce,Cf,
 Cg,Ch,Ci,Cj,Ck,Cl,Cm,Cn,Co,Cp,Cq,Cr,Cs,Ct,Cu,Cv,Cw,Cx,Cy,Cz,C0,C1,C2,C3,C4,C5,C6,C7,C8,
 C9,Da,Db,Dc,Dd,De,Df,Dg,Dh,Di,Dj,Dk,Dl,Dm,Dn,Dp,Dq,Dr,Ds,Dt,Du,Dv,Dw,Dx,Dy,Dz,D0,D1,D2,
 D3,D4,D5,D6,D7,D8,D9,Ea,Eb,Ec,Ed,Ee,Ef,Eg,Eh,Ei,Ej,Ek,El,Em,En,Eo,Ep,Er,Es,Et,Eu,Ev,Ew,
 Ex,Ey,Ez,E0,E1,E2,E3,E4,E5,E6,E7,E8,E9,Fa,Fb,Fc,Fd,Fe,Ff,Fg,Fh,Fi,Fj,Fk,Fl,Fm,Fn,Fo,Fp,
 Fq,Fr,Fs,Ft,Fu,Fv,Fw,Fx,Fy,Fz,F0,F1,F2,F3,F4,F5,F6,F7,F8,F9,Ga,Gb,Gc,Gd,Ge,Gf,Gg,Gh,Gi,
 Gj,Gk,Gl,Gm,Gn,Gp,Gq,Gr,Gs,Gt,Gu,Gv,Gw,Gx,Gy,Gz,G0,G1,G2,G3,G4,G5,G6,G7,G8,G9,Ha,Hb,Hc,
 Hd,He,Hf,Hg,Hh,Hi,Jd,Je,Jf,Jg,Jh,Ji,Jj,Jk,Jl,Jm,Jn,Jo,Jp,Jq,Jr,Js,Jt,Ju,Jv,Jw,Jx,Jy,Jz,
 J0,J1,J2,J3,J4,J5,J6,J7,J8,J9,Ka,Kb,Kc,Kd,Ke,Kf,Kg,Kh,Ki,Kj,Kk,Kl,Km,Kn,Ko,Kp,Kq,Kr,Ks,
 Kt,Ku,Kv,Kw,Kx,Ky,Kz,K0,K1,K2,K3,K4],[]⟩ w := by
  conv => arg 2; whnf
  go_still_tail 8, (by kernel_rfl)
  change wpList _ _ _ _ _ w.drew
  go_wp2
  exact hQ _ _ _ _ _ _ _ _

set_option maxRecDepth 100000 in
set_option maxHeartbeats 2000000 in
theorem mixStore1 {Aa Ab Ac K5 Lg Ad K7 K8 La Lb Lc Ld Le Lf K6 Hj Hk Ae Af Ag Ah Ai Aj Ak Al Am An Ao Ap Aq Ar As Au Av Aw Ax Ay Az A0 A1 A2 A3 A4 A5 A6 A7 A8 A9 Ba Bb Bc Bd Be Bf Bg Bh Bi Bj Bk Bl Bm Bn Bo Bp Bq Hl Hm Hn Ho Hp Hq Hr Hs Ht Hu Hv Hw Hx Hy Hz H0 H1 H2 H3 H4 H5 H6 H7 H8 H9 Ia Ib Ic Ie Ig Ih Ii Ij Ik Il Im Io Ip Iq Ir Is It Iu Iv Iw Ix Iy Iz I0 I1 I2 I3 I4 I5 I6 Br Bs Bt Bu I7 I8 I9 Ja Jb Jc Bv Bw Bx Bz B0 B1 B2 B3 B4 B5 B6 B7 B8 B9 Ca Cb Cc Cd Ce Cf Cg Ch Ci Cj Ck Cl Cm Cn Co Cp Cq Cr Cs Ct Cu Cv Cw Cx Cy Cz C0 C1 C2 C3 C4 C5 C6 C7 C8 C9 Da Db Dc Dd De Df Dg Dh Di Dj Dk Dl Dm Dn Dp Dq Dr Ds Dt Du Dv Dw Dx Dy Dz D0 D1 D2 D3 D4 D5 D6 D7 D8 D9 Ea Eb Ec Ed Ee Ef Eg Eh Ei Ej Ek El Em En Eo Ep Er Es Et Eu Ev Ew Ex Ey Ez E0 E1 E2 E3 E4 E5 E6 E7 E8 E9 Fa Fb Fc Fd Fe Ff Fg Fh Fi Fj Fk Fl Fm Fn Fo Fp Fq Fr Fs Ft Fu Fv Fw Fx Fy Fz F0 F1 F2 F3 F4 F5 F6 F7 F8 F9 Ga Gb Gc Gd Ge Gf Gg Gh Gi Gj Gk Gl Gm Gn Gp Gq Gr Gs Gt Gu Gv Gw Gx Gy Gz G0 G1 G2 G3 G4 G5 G6 G7 G8 G9 Ha Hb Hc Hd He Hf Hg Hh Hi Jd Je Jf Jg Jh Ji Jj Jk Jl Jm Jn Jo Jp Jq Jr Js Jt Ju Jv Jw Jx Jy Jz J0 J1 J2 J3 J4 J5 J6 J7 J8 J9 Ka Kb Kc Kd Ke Kf Kg Kh Ki Kj Kk Kl Km Kn Ko Kp Kq Kr Ks Kt Ku Kv Kw Kx Ky Kz K0 K1 K2 K3 K4 : Value} (x y : BitVec 32) (g : Nat) {w : World} (c : w.cell? ⟨g, 1, none⟩ = some (.int .u32 (u x))) (cf : w.frozen? ⟨g, 1, none⟩ = false) {Q : Exit → Act → World → Prop}
    (hQ : ∀ (Ng Nh Ni Nj Nk Nl Nm Nn : Value), Q .normal ⟨#[
 (.pointer (some ⟨g,0,none⟩)),Aa,Ab,Ac,K5,Lg,Ad,K7,K8,(.int .u32 (u y)),La,Lb,Lc,Ld,Le,Lf,K6,Hj,Hk,Ae,Af,Ag,Ah,Ai,Aj,Ak,Al,Am,
 An,Ao,Ap,Aq,Ar,As,Au,Av,Aw,Ax,Ay,Az,A0,A1,A2,A3,A4,A5,A6,A7,A8,A9,Ba,Bb,Bc,Bd,Be,Bf,Bg,Bh,Bi,Bj,Bk,
 Bl,Bm,Bn,Bo,Bp,Bq,Hl,Hm,Hn,Ho,Hp,Hq,Hr,Hs,Ht,Hu,Hv,Hw,Hx,Hy,Hz,H0,H1,H2,H3,H4,H5,H6,H7,H8,H9,Ia,Ib,
 Ic,Ie,Ig,Ih,Ii,Ij,Ik,Il,Im,Io,Ip,Iq,Ir,Is,It,Iu,Iv,Iw,Ix,Iy,Iz,I0,I1,I2,I3,I4,I5,I6,Br,
 Bs,Bt,Bu,I7,I8,I9,Ja,Jb,Jc,Bv,Bw,Bx,Bz,B0,B1,B2,B3,B4,B5,B6,B7,B8,B9,Ca,Cb,Cc,Cd,Ce,Cf,
 Cg,Ch,Ci,Cj,Ck,Cl,Cm,Cn,Co,Cp,Cq,Cr,Cs,Ct,Cu,Cv,Cw,Cx,Cy,Cz,C0,C1,C2,C3,C4,C5,C6,C7,C8,
 C9,Da,Db,Dc,Dd,De,Df,Dg,Dh,Di,Dj,Dk,Dl,Dm,Dn,Dp,Dq,Dr,Ds,Dt,Du,Dv,Dw,Dx,Dy,Dz,D0,D1,D2,
 D3,D4,D5,D6,D7,D8,D9,Ea,Eb,Ec,Ed,Ee,Ef,Eg,Eh,Ei,Ej,Ek,El,Em,En,Eo,Ep,Er,Es,Et,Eu,Ev,Ew,
 Ex,Ey,Ez,E0,E1,E2,E3,E4,E5,E6,E7,E8,E9,Fa,Fb,Fc,Fd,Fe,Ff,Fg,Fh,Fi,Fj,Fk,Fl,Fm,Fn,Fo,Fp,
 Fq,Fr,Fs,Ft,Fu,Fv,Fw,Fx,Fy,Fz,F0,F1,F2,F3,F4,F5,F6,F7,F8,F9,Ga,Gb,Gc,Gd,Ge,Gf,Gg,Gh,Gi,
 Gj,Gk,Gl,Gm,Gn,Gp,Gq,Gr,Gs,Gt,Gu,Gv,Gw,Gx,Gy,Gz,G0,G1,G2,G3,G4,G5,G6,G7,G8,G9,Ha,Hb,Hc,
 Hd,He,Hf,Hg,Hh,Hi,Jd,Je,Jf,Jg,Jh,Ji,Jj,Jk,Ng,Nh,Ni,Nj,Nk,Nl,Nm,Nn,Jt,Ju,Jv,Jw,Jx,Jy,Jz,
 J0,J1,J2,J3,J4,J5,J6,J7,J8,J9,Ka,Kb,Kc,Kd,Ke,Kf,Kg,Kh,Ki,Kj,Kk,Kl,Km,Kn,Ko,Kp,Kq,Kr,Ks,
 Kt,Ku,Kv,Kw,Kx,Ky,Kz,K0,K1,K2,K3,K4],[]⟩ ((w.setCell ⟨g,1,none⟩ (.int .u32 (u (x + y)))).drew)) :
    Code.wp Try.prog (mixReg 33) Q ⟨#[
 (.pointer (some ⟨g,0,none⟩)),Aa,Ab,Ac,K5,Lg,Ad,K7,K8,(.int .u32 (u y)),La,Lb,Lc,Ld,Le,Lf,K6,Hj,Hk,Ae,Af,Ag,Ah,Ai,Aj,Ak,Al,Am,
 An,Ao,Ap,Aq,Ar,As,Au,Av,Aw,Ax,Ay,Az,A0,A1,A2,A3,A4,A5,A6,A7,A8,A9,Ba,Bb,Bc,Bd,Be,Bf,Bg,Bh,Bi,Bj,Bk,
 Bl,Bm,Bn,Bo,Bp,Bq,Hl,Hm,Hn,Ho,Hp,Hq,Hr,Hs,Ht,Hu,Hv,Hw,Hx,Hy,Hz,H0,H1,H2,H3,H4,H5,H6,H7,H8,H9,Ia,Ib,
 Ic,Ie,Ig,Ih,Ii,Ij,Ik,Il,Im,Io,Ip,Iq,Ir,Is,It,Iu,Iv,Iw,Ix,Iy,Iz,I0,I1,I2,I3,I4,I5,I6,Br,
 Bs,Bt,Bu,I7,I8,I9,Ja,Jb,Jc,Bv,Bw,Bx,Bz,B0,B1,B2,B3,B4,B5,B6,B7,B8,B9,Ca,Cb,Cc,Cd,Ce,Cf,
 Cg,Ch,Ci,Cj,Ck,Cl,Cm,Cn,Co,Cp,Cq,Cr,Cs,Ct,Cu,Cv,Cw,Cx,Cy,Cz,C0,C1,C2,C3,C4,C5,C6,C7,C8,
 C9,Da,Db,Dc,Dd,De,Df,Dg,Dh,Di,Dj,Dk,Dl,Dm,Dn,Dp,Dq,Dr,Ds,Dt,Du,Dv,Dw,Dx,Dy,Dz,D0,D1,D2,
 D3,D4,D5,D6,D7,D8,D9,Ea,Eb,Ec,Ed,Ee,Ef,Eg,Eh,Ei,Ej,Ek,El,Em,En,Eo,Ep,Er,Es,Et,Eu,Ev,Ew,
 Ex,Ey,Ez,E0,E1,E2,E3,E4,E5,E6,E7,E8,E9,Fa,Fb,Fc,Fd,Fe,Ff,Fg,Fh,Fi,Fj,Fk,Fl,Fm,Fn,Fo,Fp,
 Fq,Fr,Fs,Ft,Fu,Fv,Fw,Fx,Fy,Fz,F0,F1,F2,F3,F4,F5,F6,F7,F8,F9,Ga,Gb,Gc,Gd,Ge,Gf,Gg,Gh,Gi,
 Gj,Gk,Gl,Gm,Gn,Gp,Gq,Gr,Gs,Gt,Gu,Gv,Gw,Gx,Gy,Gz,G0,G1,G2,G3,G4,G5,G6,G7,G8,G9,Ha,Hb,Hc,
 Hd,He,Hf,Hg,Hh,Hi,Jd,Je,Jf,Jg,Jh,Ji,Jj,Jk,Jl,Jm,Jn,Jo,Jp,Jq,Jr,Js,Jt,Ju,Jv,Jw,Jx,Jy,Jz,
 J0,J1,J2,J3,J4,J5,J6,J7,J8,J9,Ka,Kb,Kc,Kd,Ke,Kf,Kg,Kh,Ki,Kj,Kk,Kl,Km,Kn,Ko,Kp,Kq,Kr,Ks,
 Kt,Ku,Kv,Kw,Kx,Ky,Kz,K0,K1,K2,K3,K4],[]⟩ w := by
  conv => arg 2; whnf
  go_still_tail 8, (by kernel_rfl)
  change wpList _ _ _ _ _ w.drew
  go_wp2
  exact hQ _ _ _ _ _ _ _ _

set_option maxRecDepth 100000 in
set_option maxHeartbeats 2000000 in
theorem mixStore2 {Aa Ab Ac K5 Lg Ad K7 K8 K9 Lb Lc Ld Le Lf K6 Hj Hk Ae Af Ag Ah Ai Aj Ak Al Am An Ao Ap Aq Ar As Au Av Aw Ax Ay Az A0 A1 A2 A3 A4 A5 A6 A7 A8 A9 Ba Bb Bc Bd Be Bf Bg Bh Bi Bj Bk Bl Bm Bn Bo Bp Bq Hl Hm Hn Ho Hp Hq Hr Hs Ht Hu Hv Hw Hx Hy Hz H0 H1 H2 H3 H4 H5 H6 H7 H8 H9 Ia Ib Ic Ie Ig Ih Ii Ij Ik Il Im Io Ip Iq Ir Is It Iu Iv Iw Ix Iy Iz I0 I1 I2 I3 I4 I5 I6 Br Bs Bt Bu I7 I8 I9 Ja Jb Jc Bv Bw Bx Bz B0 B1 B2 B3 B4 B5 B6 B7 B8 B9 Ca Cb Cc Cd Ce Cf Cg Ch Ci Cj Ck Cl Cm Cn Co Cp Cq Cr Cs Ct Cu Cv Cw Cx Cy Cz C0 C1 C2 C3 C4 C5 C6 C7 C8 C9 Da Db Dc Dd De Df Dg Dh Di Dj Dk Dl Dm Dn Dp Dq Dr Ds Dt Du Dv Dw Dx Dy Dz D0 D1 D2 D3 D4 D5 D6 D7 D8 D9 Ea Eb Ec Ed Ee Ef Eg Eh Ei Ej Ek El Em En Eo Ep Er Es Et Eu Ev Ew Ex Ey Ez E0 E1 E2 E3 E4 E5 E6 E7 E8 E9 Fa Fb Fc Fd Fe Ff Fg Fh Fi Fj Fk Fl Fm Fn Fo Fp Fq Fr Fs Ft Fu Fv Fw Fx Fy Fz F0 F1 F2 F3 F4 F5 F6 F7 F8 F9 Ga Gb Gc Gd Ge Gf Gg Gh Gi Gj Gk Gl Gm Gn Gp Gq Gr Gs Gt Gu Gv Gw Gx Gy Gz G0 G1 G2 G3 G4 G5 G6 G7 G8 G9 Ha Hb Hc Hd He Hf Hg Hh Hi Jd Je Jf Jg Jh Ji Jj Jk Jl Jm Jn Jo Jp Jq Jr Js Jt Ju Jv Jw Jx Jy Jz J0 J1 J2 J3 J4 J5 J6 J7 J8 J9 Ka Kb Kc Kd Ke Kf Kg Kh Ki Kj Kk Kl Km Kn Ko Kp Kq Kr Ks Kt Ku Kv Kw Kx Ky Kz K0 K1 K2 K3 K4 : Value} (x y : BitVec 32) (g : Nat) {w : World} (c : w.cell? ⟨g, 2, none⟩ = some (.int .u32 (u x))) (cf : w.frozen? ⟨g, 2, none⟩ = false) {Q : Exit → Act → World → Prop}
    (hQ : ∀ (No Np Nq Nr Ns Nt Nu Nv : Value), Q .normal ⟨#[
 (.pointer (some ⟨g,0,none⟩)),Aa,Ab,Ac,K5,Lg,Ad,K7,K8,K9,(.int .u32 (u y)),Lb,Lc,Ld,Le,Lf,K6,Hj,Hk,Ae,Af,Ag,Ah,Ai,Aj,Ak,Al,Am,
 An,Ao,Ap,Aq,Ar,As,Au,Av,Aw,Ax,Ay,Az,A0,A1,A2,A3,A4,A5,A6,A7,A8,A9,Ba,Bb,Bc,Bd,Be,Bf,Bg,Bh,Bi,Bj,Bk,
 Bl,Bm,Bn,Bo,Bp,Bq,Hl,Hm,Hn,Ho,Hp,Hq,Hr,Hs,Ht,Hu,Hv,Hw,Hx,Hy,Hz,H0,H1,H2,H3,H4,H5,H6,H7,H8,H9,Ia,Ib,
 Ic,Ie,Ig,Ih,Ii,Ij,Ik,Il,Im,Io,Ip,Iq,Ir,Is,It,Iu,Iv,Iw,Ix,Iy,Iz,I0,I1,I2,I3,I4,I5,I6,Br,
 Bs,Bt,Bu,I7,I8,I9,Ja,Jb,Jc,Bv,Bw,Bx,Bz,B0,B1,B2,B3,B4,B5,B6,B7,B8,B9,Ca,Cb,Cc,Cd,Ce,Cf,
 Cg,Ch,Ci,Cj,Ck,Cl,Cm,Cn,Co,Cp,Cq,Cr,Cs,Ct,Cu,Cv,Cw,Cx,Cy,Cz,C0,C1,C2,C3,C4,C5,C6,C7,C8,
 C9,Da,Db,Dc,Dd,De,Df,Dg,Dh,Di,Dj,Dk,Dl,Dm,Dn,Dp,Dq,Dr,Ds,Dt,Du,Dv,Dw,Dx,Dy,Dz,D0,D1,D2,
 D3,D4,D5,D6,D7,D8,D9,Ea,Eb,Ec,Ed,Ee,Ef,Eg,Eh,Ei,Ej,Ek,El,Em,En,Eo,Ep,Er,Es,Et,Eu,Ev,Ew,
 Ex,Ey,Ez,E0,E1,E2,E3,E4,E5,E6,E7,E8,E9,Fa,Fb,Fc,Fd,Fe,Ff,Fg,Fh,Fi,Fj,Fk,Fl,Fm,Fn,Fo,Fp,
 Fq,Fr,Fs,Ft,Fu,Fv,Fw,Fx,Fy,Fz,F0,F1,F2,F3,F4,F5,F6,F7,F8,F9,Ga,Gb,Gc,Gd,Ge,Gf,Gg,Gh,Gi,
 Gj,Gk,Gl,Gm,Gn,Gp,Gq,Gr,Gs,Gt,Gu,Gv,Gw,Gx,Gy,Gz,G0,G1,G2,G3,G4,G5,G6,G7,G8,G9,Ha,Hb,Hc,
 Hd,He,Hf,Hg,Hh,Hi,Jd,Je,Jf,Jg,Jh,Ji,Jj,Jk,Jl,Jm,Jn,Jo,Jp,Jq,Jr,Js,No,Np,Nq,Nr,Ns,Nt,Nu,
 Nv,J1,J2,J3,J4,J5,J6,J7,J8,J9,Ka,Kb,Kc,Kd,Ke,Kf,Kg,Kh,Ki,Kj,Kk,Kl,Km,Kn,Ko,Kp,Kq,Kr,Ks,
 Kt,Ku,Kv,Kw,Kx,Ky,Kz,K0,K1,K2,K3,K4],[]⟩ ((w.setCell ⟨g,2,none⟩ (.int .u32 (u (x + y)))).drew)) :
    Code.wp Try.prog (mixReg 34) Q ⟨#[
 (.pointer (some ⟨g,0,none⟩)),Aa,Ab,Ac,K5,Lg,Ad,K7,K8,K9,(.int .u32 (u y)),Lb,Lc,Ld,Le,Lf,K6,Hj,Hk,Ae,Af,Ag,Ah,Ai,Aj,Ak,Al,Am,
 An,Ao,Ap,Aq,Ar,As,Au,Av,Aw,Ax,Ay,Az,A0,A1,A2,A3,A4,A5,A6,A7,A8,A9,Ba,Bb,Bc,Bd,Be,Bf,Bg,Bh,Bi,Bj,Bk,
 Bl,Bm,Bn,Bo,Bp,Bq,Hl,Hm,Hn,Ho,Hp,Hq,Hr,Hs,Ht,Hu,Hv,Hw,Hx,Hy,Hz,H0,H1,H2,H3,H4,H5,H6,H7,H8,H9,Ia,Ib,
 Ic,Ie,Ig,Ih,Ii,Ij,Ik,Il,Im,Io,Ip,Iq,Ir,Is,It,Iu,Iv,Iw,Ix,Iy,Iz,I0,I1,I2,I3,I4,I5,I6,Br,
 Bs,Bt,Bu,I7,I8,I9,Ja,Jb,Jc,Bv,Bw,Bx,Bz,B0,B1,B2,B3,B4,B5,B6,B7,B8,B9,Ca,Cb,Cc,Cd,Ce,Cf,
 Cg,Ch,Ci,Cj,Ck,Cl,Cm,Cn,Co,Cp,Cq,Cr,Cs,Ct,Cu,Cv,Cw,Cx,Cy,Cz,C0,C1,C2,C3,C4,C5,C6,C7,C8,
 C9,Da,Db,Dc,Dd,De,Df,Dg,Dh,Di,Dj,Dk,Dl,Dm,Dn,Dp,Dq,Dr,Ds,Dt,Du,Dv,Dw,Dx,Dy,Dz,D0,D1,D2,
 D3,D4,D5,D6,D7,D8,D9,Ea,Eb,Ec,Ed,Ee,Ef,Eg,Eh,Ei,Ej,Ek,El,Em,En,Eo,Ep,Er,Es,Et,Eu,Ev,Ew,
 Ex,Ey,Ez,E0,E1,E2,E3,E4,E5,E6,E7,E8,E9,Fa,Fb,Fc,Fd,Fe,Ff,Fg,Fh,Fi,Fj,Fk,Fl,Fm,Fn,Fo,Fp,
 Fq,Fr,Fs,Ft,Fu,Fv,Fw,Fx,Fy,Fz,F0,F1,F2,F3,F4,F5,F6,F7,F8,F9,Ga,Gb,Gc,Gd,Ge,Gf,Gg,Gh,Gi,
 Gj,Gk,Gl,Gm,Gn,Gp,Gq,Gr,Gs,Gt,Gu,Gv,Gw,Gx,Gy,Gz,G0,G1,G2,G3,G4,G5,G6,G7,G8,G9,Ha,Hb,Hc,
 Hd,He,Hf,Hg,Hh,Hi,Jd,Je,Jf,Jg,Jh,Ji,Jj,Jk,Jl,Jm,Jn,Jo,Jp,Jq,Jr,Js,Jt,Ju,Jv,Jw,Jx,Jy,Jz,
 J0,J1,J2,J3,J4,J5,J6,J7,J8,J9,Ka,Kb,Kc,Kd,Ke,Kf,Kg,Kh,Ki,Kj,Kk,Kl,Km,Kn,Ko,Kp,Kq,Kr,Ks,
 Kt,Ku,Kv,Kw,Kx,Ky,Kz,K0,K1,K2,K3,K4],[]⟩ w := by
  conv => arg 2; whnf
  go_still_tail 8, (by kernel_rfl)
  change wpList _ _ _ _ _ w.drew
  go_wp2
  exact hQ _ _ _ _ _ _ _ _

set_option maxRecDepth 100000 in
set_option maxHeartbeats 2000000 in
theorem mixStore3 {Aa Ab Ac K5 Lg Ad K7 K8 K9 La Lc Ld Le Lf K6 Hj Hk Ae Af Ag Ah Ai Aj Ak Al Am An Ao Ap Aq Ar As Au Av Aw Ax Ay Az A0 A1 A2 A3 A4 A5 A6 A7 A8 A9 Ba Bb Bc Bd Be Bf Bg Bh Bi Bj Bk Bl Bm Bn Bo Bp Bq Hl Hm Hn Ho Hp Hq Hr Hs Ht Hu Hv Hw Hx Hy Hz H0 H1 H2 H3 H4 H5 H6 H7 H8 H9 Ia Ib Ic Ie Ig Ih Ii Ij Ik Il Im Io Ip Iq Ir Is It Iu Iv Iw Ix Iy Iz I0 I1 I2 I3 I4 I5 I6 Br Bs Bt Bu I7 I8 I9 Ja Jb Jc Bv Bw Bx Bz B0 B1 B2 B3 B4 B5 B6 B7 B8 B9 Ca Cb Cc Cd Ce Cf Cg Ch Ci Cj Ck Cl Cm Cn Co Cp Cq Cr Cs Ct Cu Cv Cw Cx Cy Cz C0 C1 C2 C3 C4 C5 C6 C7 C8 C9 Da Db Dc Dd De Df Dg Dh Di Dj Dk Dl Dm Dn Dp Dq Dr Ds Dt Du Dv Dw Dx Dy Dz D0 D1 D2 D3 D4 D5 D6 D7 D8 D9 Ea Eb Ec Ed Ee Ef Eg Eh Ei Ej Ek El Em En Eo Ep Er Es Et Eu Ev Ew Ex Ey Ez E0 E1 E2 E3 E4 E5 E6 E7 E8 E9 Fa Fb Fc Fd Fe Ff Fg Fh Fi Fj Fk Fl Fm Fn Fo Fp Fq Fr Fs Ft Fu Fv Fw Fx Fy Fz F0 F1 F2 F3 F4 F5 F6 F7 F8 F9 Ga Gb Gc Gd Ge Gf Gg Gh Gi Gj Gk Gl Gm Gn Gp Gq Gr Gs Gt Gu Gv Gw Gx Gy Gz G0 G1 G2 G3 G4 G5 G6 G7 G8 G9 Ha Hb Hc Hd He Hf Hg Hh Hi Jd Je Jf Jg Jh Ji Jj Jk Jl Jm Jn Jo Jp Jq Jr Js Jt Ju Jv Jw Jx Jy Jz J0 J1 J2 J3 J4 J5 J6 J7 J8 J9 Ka Kb Kc Kd Ke Kf Kg Kh Ki Kj Kk Kl Km Kn Ko Kp Kq Kr Ks Kt Ku Kv Kw Kx Ky Kz K0 K1 K2 K3 K4 : Value} (x y : BitVec 32) (g : Nat) {w : World} (c : w.cell? ⟨g, 3, none⟩ = some (.int .u32 (u x))) (cf : w.frozen? ⟨g, 3, none⟩ = false) {Q : Exit → Act → World → Prop}
    (hQ : ∀ (Nw Nx Ny Nz N0 N1 N2 N3 : Value), Q .normal ⟨#[
 (.pointer (some ⟨g,0,none⟩)),Aa,Ab,Ac,K5,Lg,Ad,K7,K8,K9,La,(.int .u32 (u y)),Lc,Ld,Le,Lf,K6,Hj,Hk,Ae,Af,Ag,Ah,Ai,Aj,Ak,Al,Am,
 An,Ao,Ap,Aq,Ar,As,Au,Av,Aw,Ax,Ay,Az,A0,A1,A2,A3,A4,A5,A6,A7,A8,A9,Ba,Bb,Bc,Bd,Be,Bf,Bg,Bh,Bi,Bj,Bk,
 Bl,Bm,Bn,Bo,Bp,Bq,Hl,Hm,Hn,Ho,Hp,Hq,Hr,Hs,Ht,Hu,Hv,Hw,Hx,Hy,Hz,H0,H1,H2,H3,H4,H5,H6,H7,H8,H9,Ia,Ib,
 Ic,Ie,Ig,Ih,Ii,Ij,Ik,Il,Im,Io,Ip,Iq,Ir,Is,It,Iu,Iv,Iw,Ix,Iy,Iz,I0,I1,I2,I3,I4,I5,I6,Br,
 Bs,Bt,Bu,I7,I8,I9,Ja,Jb,Jc,Bv,Bw,Bx,Bz,B0,B1,B2,B3,B4,B5,B6,B7,B8,B9,Ca,Cb,Cc,Cd,Ce,Cf,
 Cg,Ch,Ci,Cj,Ck,Cl,Cm,Cn,Co,Cp,Cq,Cr,Cs,Ct,Cu,Cv,Cw,Cx,Cy,Cz,C0,C1,C2,C3,C4,C5,C6,C7,C8,
 C9,Da,Db,Dc,Dd,De,Df,Dg,Dh,Di,Dj,Dk,Dl,Dm,Dn,Dp,Dq,Dr,Ds,Dt,Du,Dv,Dw,Dx,Dy,Dz,D0,D1,D2,
 D3,D4,D5,D6,D7,D8,D9,Ea,Eb,Ec,Ed,Ee,Ef,Eg,Eh,Ei,Ej,Ek,El,Em,En,Eo,Ep,Er,Es,Et,Eu,Ev,Ew,
 Ex,Ey,Ez,E0,E1,E2,E3,E4,E5,E6,E7,E8,E9,Fa,Fb,Fc,Fd,Fe,Ff,Fg,Fh,Fi,Fj,Fk,Fl,Fm,Fn,Fo,Fp,
 Fq,Fr,Fs,Ft,Fu,Fv,Fw,Fx,Fy,Fz,F0,F1,F2,F3,F4,F5,F6,F7,F8,F9,Ga,Gb,Gc,Gd,Ge,Gf,Gg,Gh,Gi,
 Gj,Gk,Gl,Gm,Gn,Gp,Gq,Gr,Gs,Gt,Gu,Gv,Gw,Gx,Gy,Gz,G0,G1,G2,G3,G4,G5,G6,G7,G8,G9,Ha,Hb,Hc,
 Hd,He,Hf,Hg,Hh,Hi,Jd,Je,Jf,Jg,Jh,Ji,Jj,Jk,Jl,Jm,Jn,Jo,Jp,Jq,Jr,Js,Jt,Ju,Jv,Jw,Jx,Jy,Jz,
 J0,Nw,Nx,Ny,Nz,N0,N1,N2,N3,J9,Ka,Kb,Kc,Kd,Ke,Kf,Kg,Kh,Ki,Kj,Kk,Kl,Km,Kn,Ko,Kp,Kq,Kr,Ks,
 Kt,Ku,Kv,Kw,Kx,Ky,Kz,K0,K1,K2,K3,K4],[]⟩ ((w.setCell ⟨g,3,none⟩ (.int .u32 (u (x + y)))).drew)) :
    Code.wp Try.prog (mixReg 35) Q ⟨#[
 (.pointer (some ⟨g,0,none⟩)),Aa,Ab,Ac,K5,Lg,Ad,K7,K8,K9,La,(.int .u32 (u y)),Lc,Ld,Le,Lf,K6,Hj,Hk,Ae,Af,Ag,Ah,Ai,Aj,Ak,Al,Am,
 An,Ao,Ap,Aq,Ar,As,Au,Av,Aw,Ax,Ay,Az,A0,A1,A2,A3,A4,A5,A6,A7,A8,A9,Ba,Bb,Bc,Bd,Be,Bf,Bg,Bh,Bi,Bj,Bk,
 Bl,Bm,Bn,Bo,Bp,Bq,Hl,Hm,Hn,Ho,Hp,Hq,Hr,Hs,Ht,Hu,Hv,Hw,Hx,Hy,Hz,H0,H1,H2,H3,H4,H5,H6,H7,H8,H9,Ia,Ib,
 Ic,Ie,Ig,Ih,Ii,Ij,Ik,Il,Im,Io,Ip,Iq,Ir,Is,It,Iu,Iv,Iw,Ix,Iy,Iz,I0,I1,I2,I3,I4,I5,I6,Br,
 Bs,Bt,Bu,I7,I8,I9,Ja,Jb,Jc,Bv,Bw,Bx,Bz,B0,B1,B2,B3,B4,B5,B6,B7,B8,B9,Ca,Cb,Cc,Cd,Ce,Cf,
 Cg,Ch,Ci,Cj,Ck,Cl,Cm,Cn,Co,Cp,Cq,Cr,Cs,Ct,Cu,Cv,Cw,Cx,Cy,Cz,C0,C1,C2,C3,C4,C5,C6,C7,C8,
 C9,Da,Db,Dc,Dd,De,Df,Dg,Dh,Di,Dj,Dk,Dl,Dm,Dn,Dp,Dq,Dr,Ds,Dt,Du,Dv,Dw,Dx,Dy,Dz,D0,D1,D2,
 D3,D4,D5,D6,D7,D8,D9,Ea,Eb,Ec,Ed,Ee,Ef,Eg,Eh,Ei,Ej,Ek,El,Em,En,Eo,Ep,Er,Es,Et,Eu,Ev,Ew,
 Ex,Ey,Ez,E0,E1,E2,E3,E4,E5,E6,E7,E8,E9,Fa,Fb,Fc,Fd,Fe,Ff,Fg,Fh,Fi,Fj,Fk,Fl,Fm,Fn,Fo,Fp,
 Fq,Fr,Fs,Ft,Fu,Fv,Fw,Fx,Fy,Fz,F0,F1,F2,F3,F4,F5,F6,F7,F8,F9,Ga,Gb,Gc,Gd,Ge,Gf,Gg,Gh,Gi,
 Gj,Gk,Gl,Gm,Gn,Gp,Gq,Gr,Gs,Gt,Gu,Gv,Gw,Gx,Gy,Gz,G0,G1,G2,G3,G4,G5,G6,G7,G8,G9,Ha,Hb,Hc,
 Hd,He,Hf,Hg,Hh,Hi,Jd,Je,Jf,Jg,Jh,Ji,Jj,Jk,Jl,Jm,Jn,Jo,Jp,Jq,Jr,Js,Jt,Ju,Jv,Jw,Jx,Jy,Jz,
 J0,J1,J2,J3,J4,J5,J6,J7,J8,J9,Ka,Kb,Kc,Kd,Ke,Kf,Kg,Kh,Ki,Kj,Kk,Kl,Km,Kn,Ko,Kp,Kq,Kr,Ks,
 Kt,Ku,Kv,Kw,Kx,Ky,Kz,K0,K1,K2,K3,K4],[]⟩ w := by
  conv => arg 2; whnf
  go_still_tail 8, (by kernel_rfl)
  change wpList _ _ _ _ _ w.drew
  go_wp2
  exact hQ _ _ _ _ _ _ _ _

set_option maxRecDepth 100000 in
set_option maxHeartbeats 2000000 in
theorem mixStore4 {Aa Ab Ac K5 Lg Ad K7 K8 K9 La Lb Ld Le Lf K6 Hj Hk Ae Af Ag Ah Ai Aj Ak Al Am An Ao Ap Aq Ar As Au Av Aw Ax Ay Az A0 A1 A2 A3 A4 A5 A6 A7 A8 A9 Ba Bb Bc Bd Be Bf Bg Bh Bi Bj Bk Bl Bm Bn Bo Bp Bq Hl Hm Hn Ho Hp Hq Hr Hs Ht Hu Hv Hw Hx Hy Hz H0 H1 H2 H3 H4 H5 H6 H7 H8 H9 Ia Ib Ic Ie Ig Ih Ii Ij Ik Il Im Io Ip Iq Ir Is It Iu Iv Iw Ix Iy Iz I0 I1 I2 I3 I4 I5 I6 Br Bs Bt Bu I7 I8 I9 Ja Jb Jc Bv Bw Bx Bz B0 B1 B2 B3 B4 B5 B6 B7 B8 B9 Ca Cb Cc Cd Ce Cf Cg Ch Ci Cj Ck Cl Cm Cn Co Cp Cq Cr Cs Ct Cu Cv Cw Cx Cy Cz C0 C1 C2 C3 C4 C5 C6 C7 C8 C9 Da Db Dc Dd De Df Dg Dh Di Dj Dk Dl Dm Dn Dp Dq Dr Ds Dt Du Dv Dw Dx Dy Dz D0 D1 D2 D3 D4 D5 D6 D7 D8 D9 Ea Eb Ec Ed Ee Ef Eg Eh Ei Ej Ek El Em En Eo Ep Er Es Et Eu Ev Ew Ex Ey Ez E0 E1 E2 E3 E4 E5 E6 E7 E8 E9 Fa Fb Fc Fd Fe Ff Fg Fh Fi Fj Fk Fl Fm Fn Fo Fp Fq Fr Fs Ft Fu Fv Fw Fx Fy Fz F0 F1 F2 F3 F4 F5 F6 F7 F8 F9 Ga Gb Gc Gd Ge Gf Gg Gh Gi Gj Gk Gl Gm Gn Gp Gq Gr Gs Gt Gu Gv Gw Gx Gy Gz G0 G1 G2 G3 G4 G5 G6 G7 G8 G9 Ha Hb Hc Hd He Hf Hg Hh Hi Jd Je Jf Jg Jh Ji Jj Jk Jl Jm Jn Jo Jp Jq Jr Js Jt Ju Jv Jw Jx Jy Jz J0 J1 J2 J3 J4 J5 J6 J7 J8 J9 Ka Kb Kc Kd Ke Kf Kg Kh Ki Kj Kk Kl Km Kn Ko Kp Kq Kr Ks Kt Ku Kv Kw Kx Ky Kz K0 K1 K2 K3 K4 : Value} (x y : BitVec 32) (g : Nat) {w : World} (c : w.cell? ⟨g, 4, none⟩ = some (.int .u32 (u x))) (cf : w.frozen? ⟨g, 4, none⟩ = false) {Q : Exit → Act → World → Prop}
    (hQ : ∀ (N4 N5 N6 N7 N8 N9 Oa Ob : Value), Q .normal ⟨#[
 (.pointer (some ⟨g,0,none⟩)),Aa,Ab,Ac,K5,Lg,Ad,K7,K8,K9,La,Lb,(.int .u32 (u y)),Ld,Le,Lf,K6,Hj,Hk,Ae,Af,Ag,Ah,Ai,Aj,Ak,Al,Am,
 An,Ao,Ap,Aq,Ar,As,Au,Av,Aw,Ax,Ay,Az,A0,A1,A2,A3,A4,A5,A6,A7,A8,A9,Ba,Bb,Bc,Bd,Be,Bf,Bg,Bh,Bi,Bj,Bk,
 Bl,Bm,Bn,Bo,Bp,Bq,Hl,Hm,Hn,Ho,Hp,Hq,Hr,Hs,Ht,Hu,Hv,Hw,Hx,Hy,Hz,H0,H1,H2,H3,H4,H5,H6,H7,H8,H9,Ia,Ib,
 Ic,Ie,Ig,Ih,Ii,Ij,Ik,Il,Im,Io,Ip,Iq,Ir,Is,It,Iu,Iv,Iw,Ix,Iy,Iz,I0,I1,I2,I3,I4,I5,I6,Br,
 Bs,Bt,Bu,I7,I8,I9,Ja,Jb,Jc,Bv,Bw,Bx,Bz,B0,B1,B2,B3,B4,B5,B6,B7,B8,B9,Ca,Cb,Cc,Cd,Ce,Cf,
 Cg,Ch,Ci,Cj,Ck,Cl,Cm,Cn,Co,Cp,Cq,Cr,Cs,Ct,Cu,Cv,Cw,Cx,Cy,Cz,C0,C1,C2,C3,C4,C5,C6,C7,C8,
 C9,Da,Db,Dc,Dd,De,Df,Dg,Dh,Di,Dj,Dk,Dl,Dm,Dn,Dp,Dq,Dr,Ds,Dt,Du,Dv,Dw,Dx,Dy,Dz,D0,D1,D2,
 D3,D4,D5,D6,D7,D8,D9,Ea,Eb,Ec,Ed,Ee,Ef,Eg,Eh,Ei,Ej,Ek,El,Em,En,Eo,Ep,Er,Es,Et,Eu,Ev,Ew,
 Ex,Ey,Ez,E0,E1,E2,E3,E4,E5,E6,E7,E8,E9,Fa,Fb,Fc,Fd,Fe,Ff,Fg,Fh,Fi,Fj,Fk,Fl,Fm,Fn,Fo,Fp,
 Fq,Fr,Fs,Ft,Fu,Fv,Fw,Fx,Fy,Fz,F0,F1,F2,F3,F4,F5,F6,F7,F8,F9,Ga,Gb,Gc,Gd,Ge,Gf,Gg,Gh,Gi,
 Gj,Gk,Gl,Gm,Gn,Gp,Gq,Gr,Gs,Gt,Gu,Gv,Gw,Gx,Gy,Gz,G0,G1,G2,G3,G4,G5,G6,G7,G8,G9,Ha,Hb,Hc,
 Hd,He,Hf,Hg,Hh,Hi,Jd,Je,Jf,Jg,Jh,Ji,Jj,Jk,Jl,Jm,Jn,Jo,Jp,Jq,Jr,Js,Jt,Ju,Jv,Jw,Jx,Jy,Jz,
 J0,J1,J2,J3,J4,J5,J6,J7,J8,N4,N5,N6,N7,N8,N9,Oa,Ob,Kh,Ki,Kj,Kk,Kl,Km,Kn,Ko,Kp,Kq,Kr,Ks,
 Kt,Ku,Kv,Kw,Kx,Ky,Kz,K0,K1,K2,K3,K4],[]⟩ ((w.setCell ⟨g,4,none⟩ (.int .u32 (u (x + y)))).drew)) :
    Code.wp Try.prog (mixReg 36) Q ⟨#[
 (.pointer (some ⟨g,0,none⟩)),Aa,Ab,Ac,K5,Lg,Ad,K7,K8,K9,La,Lb,(.int .u32 (u y)),Ld,Le,Lf,K6,Hj,Hk,Ae,Af,Ag,Ah,Ai,Aj,Ak,Al,Am,
 An,Ao,Ap,Aq,Ar,As,Au,Av,Aw,Ax,Ay,Az,A0,A1,A2,A3,A4,A5,A6,A7,A8,A9,Ba,Bb,Bc,Bd,Be,Bf,Bg,Bh,Bi,Bj,Bk,
 Bl,Bm,Bn,Bo,Bp,Bq,Hl,Hm,Hn,Ho,Hp,Hq,Hr,Hs,Ht,Hu,Hv,Hw,Hx,Hy,Hz,H0,H1,H2,H3,H4,H5,H6,H7,H8,H9,Ia,Ib,
 Ic,Ie,Ig,Ih,Ii,Ij,Ik,Il,Im,Io,Ip,Iq,Ir,Is,It,Iu,Iv,Iw,Ix,Iy,Iz,I0,I1,I2,I3,I4,I5,I6,Br,
 Bs,Bt,Bu,I7,I8,I9,Ja,Jb,Jc,Bv,Bw,Bx,Bz,B0,B1,B2,B3,B4,B5,B6,B7,B8,B9,Ca,Cb,Cc,Cd,Ce,Cf,
 Cg,Ch,Ci,Cj,Ck,Cl,Cm,Cn,Co,Cp,Cq,Cr,Cs,Ct,Cu,Cv,Cw,Cx,Cy,Cz,C0,C1,C2,C3,C4,C5,C6,C7,C8,
 C9,Da,Db,Dc,Dd,De,Df,Dg,Dh,Di,Dj,Dk,Dl,Dm,Dn,Dp,Dq,Dr,Ds,Dt,Du,Dv,Dw,Dx,Dy,Dz,D0,D1,D2,
 D3,D4,D5,D6,D7,D8,D9,Ea,Eb,Ec,Ed,Ee,Ef,Eg,Eh,Ei,Ej,Ek,El,Em,En,Eo,Ep,Er,Es,Et,Eu,Ev,Ew,
 Ex,Ey,Ez,E0,E1,E2,E3,E4,E5,E6,E7,E8,E9,Fa,Fb,Fc,Fd,Fe,Ff,Fg,Fh,Fi,Fj,Fk,Fl,Fm,Fn,Fo,Fp,
 Fq,Fr,Fs,Ft,Fu,Fv,Fw,Fx,Fy,Fz,F0,F1,F2,F3,F4,F5,F6,F7,F8,F9,Ga,Gb,Gc,Gd,Ge,Gf,Gg,Gh,Gi,
 Gj,Gk,Gl,Gm,Gn,Gp,Gq,Gr,Gs,Gt,Gu,Gv,Gw,Gx,Gy,Gz,G0,G1,G2,G3,G4,G5,G6,G7,G8,G9,Ha,Hb,Hc,
 Hd,He,Hf,Hg,Hh,Hi,Jd,Je,Jf,Jg,Jh,Ji,Jj,Jk,Jl,Jm,Jn,Jo,Jp,Jq,Jr,Js,Jt,Ju,Jv,Jw,Jx,Jy,Jz,
 J0,J1,J2,J3,J4,J5,J6,J7,J8,J9,Ka,Kb,Kc,Kd,Ke,Kf,Kg,Kh,Ki,Kj,Kk,Kl,Km,Kn,Ko,Kp,Kq,Kr,Ks,
 Kt,Ku,Kv,Kw,Kx,Ky,Kz,K0,K1,K2,K3,K4],[]⟩ w := by
  conv => arg 2; whnf
  go_still_tail 8, (by kernel_rfl)
  change wpList _ _ _ _ _ w.drew
  go_wp2
  exact hQ _ _ _ _ _ _ _ _

set_option maxRecDepth 100000 in
set_option maxHeartbeats 2000000 in
theorem mixStore5 {Aa Ab Ac K5 Lg Ad K7 K8 K9 La Lb Lc Le Lf K6 Hj Hk Ae Af Ag Ah Ai Aj Ak Al Am An Ao Ap Aq Ar As Au Av Aw Ax Ay Az A0 A1 A2 A3 A4 A5 A6 A7 A8 A9 Ba Bb Bc Bd Be Bf Bg Bh Bi Bj Bk Bl Bm Bn Bo Bp Bq Hl Hm Hn Ho Hp Hq Hr Hs Ht Hu Hv Hw Hx Hy Hz H0 H1 H2 H3 H4 H5 H6 H7 H8 H9 Ia Ib Ic Ie Ig Ih Ii Ij Ik Il Im Io Ip Iq Ir Is It Iu Iv Iw Ix Iy Iz I0 I1 I2 I3 I4 I5 I6 Br Bs Bt Bu I7 I8 I9 Ja Jb Jc Bv Bw Bx Bz B0 B1 B2 B3 B4 B5 B6 B7 B8 B9 Ca Cb Cc Cd Ce Cf Cg Ch Ci Cj Ck Cl Cm Cn Co Cp Cq Cr Cs Ct Cu Cv Cw Cx Cy Cz C0 C1 C2 C3 C4 C5 C6 C7 C8 C9 Da Db Dc Dd De Df Dg Dh Di Dj Dk Dl Dm Dn Dp Dq Dr Ds Dt Du Dv Dw Dx Dy Dz D0 D1 D2 D3 D4 D5 D6 D7 D8 D9 Ea Eb Ec Ed Ee Ef Eg Eh Ei Ej Ek El Em En Eo Ep Er Es Et Eu Ev Ew Ex Ey Ez E0 E1 E2 E3 E4 E5 E6 E7 E8 E9 Fa Fb Fc Fd Fe Ff Fg Fh Fi Fj Fk Fl Fm Fn Fo Fp Fq Fr Fs Ft Fu Fv Fw Fx Fy Fz F0 F1 F2 F3 F4 F5 F6 F7 F8 F9 Ga Gb Gc Gd Ge Gf Gg Gh Gi Gj Gk Gl Gm Gn Gp Gq Gr Gs Gt Gu Gv Gw Gx Gy Gz G0 G1 G2 G3 G4 G5 G6 G7 G8 G9 Ha Hb Hc Hd He Hf Hg Hh Hi Jd Je Jf Jg Jh Ji Jj Jk Jl Jm Jn Jo Jp Jq Jr Js Jt Ju Jv Jw Jx Jy Jz J0 J1 J2 J3 J4 J5 J6 J7 J8 J9 Ka Kb Kc Kd Ke Kf Kg Kh Ki Kj Kk Kl Km Kn Ko Kp Kq Kr Ks Kt Ku Kv Kw Kx Ky Kz K0 K1 K2 K3 K4 : Value} (x y : BitVec 32) (g : Nat) {w : World} (c : w.cell? ⟨g, 5, none⟩ = some (.int .u32 (u x))) (cf : w.frozen? ⟨g, 5, none⟩ = false) {Q : Exit → Act → World → Prop}
    (hQ : ∀ (Oc Od Oe Of Og Oh Oi Oj : Value), Q .normal ⟨#[
 (.pointer (some ⟨g,0,none⟩)),Aa,Ab,Ac,K5,Lg,Ad,K7,K8,K9,La,Lb,Lc,(.int .u32 (u y)),Le,Lf,K6,Hj,Hk,Ae,Af,Ag,Ah,Ai,Aj,Ak,Al,Am,
 An,Ao,Ap,Aq,Ar,As,Au,Av,Aw,Ax,Ay,Az,A0,A1,A2,A3,A4,A5,A6,A7,A8,A9,Ba,Bb,Bc,Bd,Be,Bf,Bg,Bh,Bi,Bj,Bk,
 Bl,Bm,Bn,Bo,Bp,Bq,Hl,Hm,Hn,Ho,Hp,Hq,Hr,Hs,Ht,Hu,Hv,Hw,Hx,Hy,Hz,H0,H1,H2,H3,H4,H5,H6,H7,H8,H9,Ia,Ib,
 Ic,Ie,Ig,Ih,Ii,Ij,Ik,Il,Im,Io,Ip,Iq,Ir,Is,It,Iu,Iv,Iw,Ix,Iy,Iz,I0,I1,I2,I3,I4,I5,I6,Br,
 Bs,Bt,Bu,I7,I8,I9,Ja,Jb,Jc,Bv,Bw,Bx,Bz,B0,B1,B2,B3,B4,B5,B6,B7,B8,B9,Ca,Cb,Cc,Cd,Ce,Cf,
 Cg,Ch,Ci,Cj,Ck,Cl,Cm,Cn,Co,Cp,Cq,Cr,Cs,Ct,Cu,Cv,Cw,Cx,Cy,Cz,C0,C1,C2,C3,C4,C5,C6,C7,C8,
 C9,Da,Db,Dc,Dd,De,Df,Dg,Dh,Di,Dj,Dk,Dl,Dm,Dn,Dp,Dq,Dr,Ds,Dt,Du,Dv,Dw,Dx,Dy,Dz,D0,D1,D2,
 D3,D4,D5,D6,D7,D8,D9,Ea,Eb,Ec,Ed,Ee,Ef,Eg,Eh,Ei,Ej,Ek,El,Em,En,Eo,Ep,Er,Es,Et,Eu,Ev,Ew,
 Ex,Ey,Ez,E0,E1,E2,E3,E4,E5,E6,E7,E8,E9,Fa,Fb,Fc,Fd,Fe,Ff,Fg,Fh,Fi,Fj,Fk,Fl,Fm,Fn,Fo,Fp,
 Fq,Fr,Fs,Ft,Fu,Fv,Fw,Fx,Fy,Fz,F0,F1,F2,F3,F4,F5,F6,F7,F8,F9,Ga,Gb,Gc,Gd,Ge,Gf,Gg,Gh,Gi,
 Gj,Gk,Gl,Gm,Gn,Gp,Gq,Gr,Gs,Gt,Gu,Gv,Gw,Gx,Gy,Gz,G0,G1,G2,G3,G4,G5,G6,G7,G8,G9,Ha,Hb,Hc,
 Hd,He,Hf,Hg,Hh,Hi,Jd,Je,Jf,Jg,Jh,Ji,Jj,Jk,Jl,Jm,Jn,Jo,Jp,Jq,Jr,Js,Jt,Ju,Jv,Jw,Jx,Jy,Jz,
 J0,J1,J2,J3,J4,J5,J6,J7,J8,J9,Ka,Kb,Kc,Kd,Ke,Kf,Kg,Oc,Od,Oe,Of,Og,Oh,Oi,Oj,Kp,Kq,Kr,Ks,
 Kt,Ku,Kv,Kw,Kx,Ky,Kz,K0,K1,K2,K3,K4],[]⟩ ((w.setCell ⟨g,5,none⟩ (.int .u32 (u (x + y)))).drew)) :
    Code.wp Try.prog (mixReg 37) Q ⟨#[
 (.pointer (some ⟨g,0,none⟩)),Aa,Ab,Ac,K5,Lg,Ad,K7,K8,K9,La,Lb,Lc,(.int .u32 (u y)),Le,Lf,K6,Hj,Hk,Ae,Af,Ag,Ah,Ai,Aj,Ak,Al,Am,
 An,Ao,Ap,Aq,Ar,As,Au,Av,Aw,Ax,Ay,Az,A0,A1,A2,A3,A4,A5,A6,A7,A8,A9,Ba,Bb,Bc,Bd,Be,Bf,Bg,Bh,Bi,Bj,Bk,
 Bl,Bm,Bn,Bo,Bp,Bq,Hl,Hm,Hn,Ho,Hp,Hq,Hr,Hs,Ht,Hu,Hv,Hw,Hx,Hy,Hz,H0,H1,H2,H3,H4,H5,H6,H7,H8,H9,Ia,Ib,
 Ic,Ie,Ig,Ih,Ii,Ij,Ik,Il,Im,Io,Ip,Iq,Ir,Is,It,Iu,Iv,Iw,Ix,Iy,Iz,I0,I1,I2,I3,I4,I5,I6,Br,
 Bs,Bt,Bu,I7,I8,I9,Ja,Jb,Jc,Bv,Bw,Bx,Bz,B0,B1,B2,B3,B4,B5,B6,B7,B8,B9,Ca,Cb,Cc,Cd,Ce,Cf,
 Cg,Ch,Ci,Cj,Ck,Cl,Cm,Cn,Co,Cp,Cq,Cr,Cs,Ct,Cu,Cv,Cw,Cx,Cy,Cz,C0,C1,C2,C3,C4,C5,C6,C7,C8,
 C9,Da,Db,Dc,Dd,De,Df,Dg,Dh,Di,Dj,Dk,Dl,Dm,Dn,Dp,Dq,Dr,Ds,Dt,Du,Dv,Dw,Dx,Dy,Dz,D0,D1,D2,
 D3,D4,D5,D6,D7,D8,D9,Ea,Eb,Ec,Ed,Ee,Ef,Eg,Eh,Ei,Ej,Ek,El,Em,En,Eo,Ep,Er,Es,Et,Eu,Ev,Ew,
 Ex,Ey,Ez,E0,E1,E2,E3,E4,E5,E6,E7,E8,E9,Fa,Fb,Fc,Fd,Fe,Ff,Fg,Fh,Fi,Fj,Fk,Fl,Fm,Fn,Fo,Fp,
 Fq,Fr,Fs,Ft,Fu,Fv,Fw,Fx,Fy,Fz,F0,F1,F2,F3,F4,F5,F6,F7,F8,F9,Ga,Gb,Gc,Gd,Ge,Gf,Gg,Gh,Gi,
 Gj,Gk,Gl,Gm,Gn,Gp,Gq,Gr,Gs,Gt,Gu,Gv,Gw,Gx,Gy,Gz,G0,G1,G2,G3,G4,G5,G6,G7,G8,G9,Ha,Hb,Hc,
 Hd,He,Hf,Hg,Hh,Hi,Jd,Je,Jf,Jg,Jh,Ji,Jj,Jk,Jl,Jm,Jn,Jo,Jp,Jq,Jr,Js,Jt,Ju,Jv,Jw,Jx,Jy,Jz,
 J0,J1,J2,J3,J4,J5,J6,J7,J8,J9,Ka,Kb,Kc,Kd,Ke,Kf,Kg,Kh,Ki,Kj,Kk,Kl,Km,Kn,Ko,Kp,Kq,Kr,Ks,
 Kt,Ku,Kv,Kw,Kx,Ky,Kz,K0,K1,K2,K3,K4],[]⟩ w := by
  conv => arg 2; whnf
  go_still_tail 8, (by kernel_rfl)
  change wpList _ _ _ _ _ w.drew
  go_wp2
  exact hQ _ _ _ _ _ _ _ _

set_option maxRecDepth 100000 in
set_option maxHeartbeats 2000000 in
theorem mixStore6 {Aa Ab Ac K5 Lg Ad K7 K8 K9 La Lb Lc Ld Lf K6 Hj Hk Ae Af Ag Ah Ai Aj Ak Al Am An Ao Ap Aq Ar As Au Av Aw Ax Ay Az A0 A1 A2 A3 A4 A5 A6 A7 A8 A9 Ba Bb Bc Bd Be Bf Bg Bh Bi Bj Bk Bl Bm Bn Bo Bp Bq Hl Hm Hn Ho Hp Hq Hr Hs Ht Hu Hv Hw Hx Hy Hz H0 H1 H2 H3 H4 H5 H6 H7 H8 H9 Ia Ib Ic Ie Ig Ih Ii Ij Ik Il Im Io Ip Iq Ir Is It Iu Iv Iw Ix Iy Iz I0 I1 I2 I3 I4 I5 I6 Br Bs Bt Bu I7 I8 I9 Ja Jb Jc Bv Bw Bx Bz B0 B1 B2 B3 B4 B5 B6 B7 B8 B9 Ca Cb Cc Cd Ce Cf Cg Ch Ci Cj Ck Cl Cm Cn Co Cp Cq Cr Cs Ct Cu Cv Cw Cx Cy Cz C0 C1 C2 C3 C4 C5 C6 C7 C8 C9 Da Db Dc Dd De Df Dg Dh Di Dj Dk Dl Dm Dn Dp Dq Dr Ds Dt Du Dv Dw Dx Dy Dz D0 D1 D2 D3 D4 D5 D6 D7 D8 D9 Ea Eb Ec Ed Ee Ef Eg Eh Ei Ej Ek El Em En Eo Ep Er Es Et Eu Ev Ew Ex Ey Ez E0 E1 E2 E3 E4 E5 E6 E7 E8 E9 Fa Fb Fc Fd Fe Ff Fg Fh Fi Fj Fk Fl Fm Fn Fo Fp Fq Fr Fs Ft Fu Fv Fw Fx Fy Fz F0 F1 F2 F3 F4 F5 F6 F7 F8 F9 Ga Gb Gc Gd Ge Gf Gg Gh Gi Gj Gk Gl Gm Gn Gp Gq Gr Gs Gt Gu Gv Gw Gx Gy Gz G0 G1 G2 G3 G4 G5 G6 G7 G8 G9 Ha Hb Hc Hd He Hf Hg Hh Hi Jd Je Jf Jg Jh Ji Jj Jk Jl Jm Jn Jo Jp Jq Jr Js Jt Ju Jv Jw Jx Jy Jz J0 J1 J2 J3 J4 J5 J6 J7 J8 J9 Ka Kb Kc Kd Ke Kf Kg Kh Ki Kj Kk Kl Km Kn Ko Kp Kq Kr Ks Kt Ku Kv Kw Kx Ky Kz K0 K1 K2 K3 K4 : Value} (x y : BitVec 32) (g : Nat) {w : World} (c : w.cell? ⟨g, 6, none⟩ = some (.int .u32 (u x))) (cf : w.frozen? ⟨g, 6, none⟩ = false) {Q : Exit → Act → World → Prop}
    (hQ : ∀ (Ok Ol Om On Oo Op Oq Os : Value), Q .normal ⟨#[
 (.pointer (some ⟨g,0,none⟩)),Aa,Ab,Ac,K5,Lg,Ad,K7,K8,K9,La,Lb,Lc,Ld,(.int .u32 (u y)),Lf,K6,Hj,Hk,Ae,Af,Ag,Ah,Ai,Aj,Ak,Al,Am,
 An,Ao,Ap,Aq,Ar,As,Au,Av,Aw,Ax,Ay,Az,A0,A1,A2,A3,A4,A5,A6,A7,A8,A9,Ba,Bb,Bc,Bd,Be,Bf,Bg,Bh,Bi,Bj,Bk,
 Bl,Bm,Bn,Bo,Bp,Bq,Hl,Hm,Hn,Ho,Hp,Hq,Hr,Hs,Ht,Hu,Hv,Hw,Hx,Hy,Hz,H0,H1,H2,H3,H4,H5,H6,H7,H8,H9,Ia,Ib,
 Ic,Ie,Ig,Ih,Ii,Ij,Ik,Il,Im,Io,Ip,Iq,Ir,Is,It,Iu,Iv,Iw,Ix,Iy,Iz,I0,I1,I2,I3,I4,I5,I6,Br,
 Bs,Bt,Bu,I7,I8,I9,Ja,Jb,Jc,Bv,Bw,Bx,Bz,B0,B1,B2,B3,B4,B5,B6,B7,B8,B9,Ca,Cb,Cc,Cd,Ce,Cf,
 Cg,Ch,Ci,Cj,Ck,Cl,Cm,Cn,Co,Cp,Cq,Cr,Cs,Ct,Cu,Cv,Cw,Cx,Cy,Cz,C0,C1,C2,C3,C4,C5,C6,C7,C8,
 C9,Da,Db,Dc,Dd,De,Df,Dg,Dh,Di,Dj,Dk,Dl,Dm,Dn,Dp,Dq,Dr,Ds,Dt,Du,Dv,Dw,Dx,Dy,Dz,D0,D1,D2,
 D3,D4,D5,D6,D7,D8,D9,Ea,Eb,Ec,Ed,Ee,Ef,Eg,Eh,Ei,Ej,Ek,El,Em,En,Eo,Ep,Er,Es,Et,Eu,Ev,Ew,
 Ex,Ey,Ez,E0,E1,E2,E3,E4,E5,E6,E7,E8,E9,Fa,Fb,Fc,Fd,Fe,Ff,Fg,Fh,Fi,Fj,Fk,Fl,Fm,Fn,Fo,Fp,
 Fq,Fr,Fs,Ft,Fu,Fv,Fw,Fx,Fy,Fz,F0,F1,F2,F3,F4,F5,F6,F7,F8,F9,Ga,Gb,Gc,Gd,Ge,Gf,Gg,Gh,Gi,
 Gj,Gk,Gl,Gm,Gn,Gp,Gq,Gr,Gs,Gt,Gu,Gv,Gw,Gx,Gy,Gz,G0,G1,G2,G3,G4,G5,G6,G7,G8,G9,Ha,Hb,Hc,
 Hd,He,Hf,Hg,Hh,Hi,Jd,Je,Jf,Jg,Jh,Ji,Jj,Jk,Jl,Jm,Jn,Jo,Jp,Jq,Jr,Js,Jt,Ju,Jv,Jw,Jx,Jy,Jz,
 J0,J1,J2,J3,J4,J5,J6,J7,J8,J9,Ka,Kb,Kc,Kd,Ke,Kf,Kg,Kh,Ki,Kj,Kk,Kl,Km,Kn,Ko,Ok,Ol,Om,On,
 Oo,Op,Oq,Os,Kx,Ky,Kz,K0,K1,K2,K3,K4],[]⟩ ((w.setCell ⟨g,6,none⟩ (.int .u32 (u (x + y)))).drew)) :
    Code.wp Try.prog (mixReg 38) Q ⟨#[
 (.pointer (some ⟨g,0,none⟩)),Aa,Ab,Ac,K5,Lg,Ad,K7,K8,K9,La,Lb,Lc,Ld,(.int .u32 (u y)),Lf,K6,Hj,Hk,Ae,Af,Ag,Ah,Ai,Aj,Ak,Al,Am,
 An,Ao,Ap,Aq,Ar,As,Au,Av,Aw,Ax,Ay,Az,A0,A1,A2,A3,A4,A5,A6,A7,A8,A9,Ba,Bb,Bc,Bd,Be,Bf,Bg,Bh,Bi,Bj,Bk,
 Bl,Bm,Bn,Bo,Bp,Bq,Hl,Hm,Hn,Ho,Hp,Hq,Hr,Hs,Ht,Hu,Hv,Hw,Hx,Hy,Hz,H0,H1,H2,H3,H4,H5,H6,H7,H8,H9,Ia,Ib,
 Ic,Ie,Ig,Ih,Ii,Ij,Ik,Il,Im,Io,Ip,Iq,Ir,Is,It,Iu,Iv,Iw,Ix,Iy,Iz,I0,I1,I2,I3,I4,I5,I6,Br,
 Bs,Bt,Bu,I7,I8,I9,Ja,Jb,Jc,Bv,Bw,Bx,Bz,B0,B1,B2,B3,B4,B5,B6,B7,B8,B9,Ca,Cb,Cc,Cd,Ce,Cf,
 Cg,Ch,Ci,Cj,Ck,Cl,Cm,Cn,Co,Cp,Cq,Cr,Cs,Ct,Cu,Cv,Cw,Cx,Cy,Cz,C0,C1,C2,C3,C4,C5,C6,C7,C8,
 C9,Da,Db,Dc,Dd,De,Df,Dg,Dh,Di,Dj,Dk,Dl,Dm,Dn,Dp,Dq,Dr,Ds,Dt,Du,Dv,Dw,Dx,Dy,Dz,D0,D1,D2,
 D3,D4,D5,D6,D7,D8,D9,Ea,Eb,Ec,Ed,Ee,Ef,Eg,Eh,Ei,Ej,Ek,El,Em,En,Eo,Ep,Er,Es,Et,Eu,Ev,Ew,
 Ex,Ey,Ez,E0,E1,E2,E3,E4,E5,E6,E7,E8,E9,Fa,Fb,Fc,Fd,Fe,Ff,Fg,Fh,Fi,Fj,Fk,Fl,Fm,Fn,Fo,Fp,
 Fq,Fr,Fs,Ft,Fu,Fv,Fw,Fx,Fy,Fz,F0,F1,F2,F3,F4,F5,F6,F7,F8,F9,Ga,Gb,Gc,Gd,Ge,Gf,Gg,Gh,Gi,
 Gj,Gk,Gl,Gm,Gn,Gp,Gq,Gr,Gs,Gt,Gu,Gv,Gw,Gx,Gy,Gz,G0,G1,G2,G3,G4,G5,G6,G7,G8,G9,Ha,Hb,Hc,
 Hd,He,Hf,Hg,Hh,Hi,Jd,Je,Jf,Jg,Jh,Ji,Jj,Jk,Jl,Jm,Jn,Jo,Jp,Jq,Jr,Js,Jt,Ju,Jv,Jw,Jx,Jy,Jz,
 J0,J1,J2,J3,J4,J5,J6,J7,J8,J9,Ka,Kb,Kc,Kd,Ke,Kf,Kg,Kh,Ki,Kj,Kk,Kl,Km,Kn,Ko,Kp,Kq,Kr,Ks,
 Kt,Ku,Kv,Kw,Kx,Ky,Kz,K0,K1,K2,K3,K4],[]⟩ w := by
  conv => arg 2; whnf
  go_still_tail 8, (by kernel_rfl)
  change wpList _ _ _ _ _ w.drew
  go_wp2
  exact hQ _ _ _ _ _ _ _ _

set_option maxRecDepth 100000 in
set_option maxHeartbeats 2000000 in
theorem mixStore7 {Aa Ab Ac K5 Lg Ad K7 K8 K9 La Lb Lc Ld Le K6 Hj Hk Ae Af Ag Ah Ai Aj Ak Al Am An Ao Ap Aq Ar As Au Av Aw Ax Ay Az A0 A1 A2 A3 A4 A5 A6 A7 A8 A9 Ba Bb Bc Bd Be Bf Bg Bh Bi Bj Bk Bl Bm Bn Bo Bp Bq Hl Hm Hn Ho Hp Hq Hr Hs Ht Hu Hv Hw Hx Hy Hz H0 H1 H2 H3 H4 H5 H6 H7 H8 H9 Ia Ib Ic Ie Ig Ih Ii Ij Ik Il Im Io Ip Iq Ir Is It Iu Iv Iw Ix Iy Iz I0 I1 I2 I3 I4 I5 I6 Br Bs Bt Bu I7 I8 I9 Ja Jb Jc Bv Bw Bx Bz B0 B1 B2 B3 B4 B5 B6 B7 B8 B9 Ca Cb Cc Cd Ce Cf Cg Ch Ci Cj Ck Cl Cm Cn Co Cp Cq Cr Cs Ct Cu Cv Cw Cx Cy Cz C0 C1 C2 C3 C4 C5 C6 C7 C8 C9 Da Db Dc Dd De Df Dg Dh Di Dj Dk Dl Dm Dn Dp Dq Dr Ds Dt Du Dv Dw Dx Dy Dz D0 D1 D2 D3 D4 D5 D6 D7 D8 D9 Ea Eb Ec Ed Ee Ef Eg Eh Ei Ej Ek El Em En Eo Ep Er Es Et Eu Ev Ew Ex Ey Ez E0 E1 E2 E3 E4 E5 E6 E7 E8 E9 Fa Fb Fc Fd Fe Ff Fg Fh Fi Fj Fk Fl Fm Fn Fo Fp Fq Fr Fs Ft Fu Fv Fw Fx Fy Fz F0 F1 F2 F3 F4 F5 F6 F7 F8 F9 Ga Gb Gc Gd Ge Gf Gg Gh Gi Gj Gk Gl Gm Gn Gp Gq Gr Gs Gt Gu Gv Gw Gx Gy Gz G0 G1 G2 G3 G4 G5 G6 G7 G8 G9 Ha Hb Hc Hd He Hf Hg Hh Hi Jd Je Jf Jg Jh Ji Jj Jk Jl Jm Jn Jo Jp Jq Jr Js Jt Ju Jv Jw Jx Jy Jz J0 J1 J2 J3 J4 J5 J6 J7 J8 J9 Ka Kb Kc Kd Ke Kf Kg Kh Ki Kj Kk Kl Km Kn Ko Kp Kq Kr Ks Kt Ku Kv Kw Kx Ky Kz K0 K1 K2 K3 K4 : Value} (x y : BitVec 32) (g : Nat) {w : World} (c : w.cell? ⟨g, 7, none⟩ = some (.int .u32 (u x))) (cf : w.frozen? ⟨g, 7, none⟩ = false) {Q : Exit → Act → World → Prop}
    (hQ : ∀ (Ot Ou Ov Ow Ox Oy Oz O0 : Value), Q .normal ⟨#[
 (.pointer (some ⟨g,0,none⟩)),Aa,Ab,Ac,K5,Lg,Ad,K7,K8,K9,La,Lb,Lc,Ld,Le,(.int .u32 (u y)),K6,Hj,Hk,Ae,Af,Ag,Ah,Ai,Aj,Ak,Al,Am,
 An,Ao,Ap,Aq,Ar,As,Au,Av,Aw,Ax,Ay,Az,A0,A1,A2,A3,A4,A5,A6,A7,A8,A9,Ba,Bb,Bc,Bd,Be,Bf,Bg,Bh,Bi,Bj,Bk,
 Bl,Bm,Bn,Bo,Bp,Bq,Hl,Hm,Hn,Ho,Hp,Hq,Hr,Hs,Ht,Hu,Hv,Hw,Hx,Hy,Hz,H0,H1,H2,H3,H4,H5,H6,H7,H8,H9,Ia,Ib,
 Ic,Ie,Ig,Ih,Ii,Ij,Ik,Il,Im,Io,Ip,Iq,Ir,Is,It,Iu,Iv,Iw,Ix,Iy,Iz,I0,I1,I2,I3,I4,I5,I6,Br,
 Bs,Bt,Bu,I7,I8,I9,Ja,Jb,Jc,Bv,Bw,Bx,Bz,B0,B1,B2,B3,B4,B5,B6,B7,B8,B9,Ca,Cb,Cc,Cd,Ce,Cf,
 Cg,Ch,Ci,Cj,Ck,Cl,Cm,Cn,Co,Cp,Cq,Cr,Cs,Ct,Cu,Cv,Cw,Cx,Cy,Cz,C0,C1,C2,C3,C4,C5,C6,C7,C8,
 C9,Da,Db,Dc,Dd,De,Df,Dg,Dh,Di,Dj,Dk,Dl,Dm,Dn,Dp,Dq,Dr,Ds,Dt,Du,Dv,Dw,Dx,Dy,Dz,D0,D1,D2,
 D3,D4,D5,D6,D7,D8,D9,Ea,Eb,Ec,Ed,Ee,Ef,Eg,Eh,Ei,Ej,Ek,El,Em,En,Eo,Ep,Er,Es,Et,Eu,Ev,Ew,
 Ex,Ey,Ez,E0,E1,E2,E3,E4,E5,E6,E7,E8,E9,Fa,Fb,Fc,Fd,Fe,Ff,Fg,Fh,Fi,Fj,Fk,Fl,Fm,Fn,Fo,Fp,
 Fq,Fr,Fs,Ft,Fu,Fv,Fw,Fx,Fy,Fz,F0,F1,F2,F3,F4,F5,F6,F7,F8,F9,Ga,Gb,Gc,Gd,Ge,Gf,Gg,Gh,Gi,
 Gj,Gk,Gl,Gm,Gn,Gp,Gq,Gr,Gs,Gt,Gu,Gv,Gw,Gx,Gy,Gz,G0,G1,G2,G3,G4,G5,G6,G7,G8,G9,Ha,Hb,Hc,
 Hd,He,Hf,Hg,Hh,Hi,Jd,Je,Jf,Jg,Jh,Ji,Jj,Jk,Jl,Jm,Jn,Jo,Jp,Jq,Jr,Js,Jt,Ju,Jv,Jw,Jx,Jy,Jz,
 J0,J1,J2,J3,J4,J5,J6,J7,J8,J9,Ka,Kb,Kc,Kd,Ke,Kf,Kg,Kh,Ki,Kj,Kk,Kl,Km,Kn,Ko,Kp,Kq,Kr,Ks,
 Kt,Ku,Kv,Kw,Ot,Ou,Ov,Ow,Ox,Oy,Oz,O0],[]⟩ ((w.setCell ⟨g,7,none⟩ (.int .u32 (u (x + y)))).drew)) :
    Code.wp Try.prog (mixReg 39) Q ⟨#[
 (.pointer (some ⟨g,0,none⟩)),Aa,Ab,Ac,K5,Lg,Ad,K7,K8,K9,La,Lb,Lc,Ld,Le,(.int .u32 (u y)),K6,Hj,Hk,Ae,Af,Ag,Ah,Ai,Aj,Ak,Al,Am,
 An,Ao,Ap,Aq,Ar,As,Au,Av,Aw,Ax,Ay,Az,A0,A1,A2,A3,A4,A5,A6,A7,A8,A9,Ba,Bb,Bc,Bd,Be,Bf,Bg,Bh,Bi,Bj,Bk,
 Bl,Bm,Bn,Bo,Bp,Bq,Hl,Hm,Hn,Ho,Hp,Hq,Hr,Hs,Ht,Hu,Hv,Hw,Hx,Hy,Hz,H0,H1,H2,H3,H4,H5,H6,H7,H8,H9,Ia,Ib,
 Ic,Ie,Ig,Ih,Ii,Ij,Ik,Il,Im,Io,Ip,Iq,Ir,Is,It,Iu,Iv,Iw,Ix,Iy,Iz,I0,I1,I2,I3,I4,I5,I6,Br,
 Bs,Bt,Bu,I7,I8,I9,Ja,Jb,Jc,Bv,Bw,Bx,Bz,B0,B1,B2,B3,B4,B5,B6,B7,B8,B9,Ca,Cb,Cc,Cd,Ce,Cf,
 Cg,Ch,Ci,Cj,Ck,Cl,Cm,Cn,Co,Cp,Cq,Cr,Cs,Ct,Cu,Cv,Cw,Cx,Cy,Cz,C0,C1,C2,C3,C4,C5,C6,C7,C8,
 C9,Da,Db,Dc,Dd,De,Df,Dg,Dh,Di,Dj,Dk,Dl,Dm,Dn,Dp,Dq,Dr,Ds,Dt,Du,Dv,Dw,Dx,Dy,Dz,D0,D1,D2,
 D3,D4,D5,D6,D7,D8,D9,Ea,Eb,Ec,Ed,Ee,Ef,Eg,Eh,Ei,Ej,Ek,El,Em,En,Eo,Ep,Er,Es,Et,Eu,Ev,Ew,
 Ex,Ey,Ez,E0,E1,E2,E3,E4,E5,E6,E7,E8,E9,Fa,Fb,Fc,Fd,Fe,Ff,Fg,Fh,Fi,Fj,Fk,Fl,Fm,Fn,Fo,Fp,
 Fq,Fr,Fs,Ft,Fu,Fv,Fw,Fx,Fy,Fz,F0,F1,F2,F3,F4,F5,F6,F7,F8,F9,Ga,Gb,Gc,Gd,Ge,Gf,Gg,Gh,Gi,
 Gj,Gk,Gl,Gm,Gn,Gp,Gq,Gr,Gs,Gt,Gu,Gv,Gw,Gx,Gy,Gz,G0,G1,G2,G3,G4,G5,G6,G7,G8,G9,Ha,Hb,Hc,
 Hd,He,Hf,Hg,Hh,Hi,Jd,Je,Jf,Jg,Jh,Ji,Jj,Jk,Jl,Jm,Jn,Jo,Jp,Jq,Jr,Js,Jt,Ju,Jv,Jw,Jx,Jy,Jz,
 J0,J1,J2,J3,J4,J5,J6,J7,J8,J9,Ka,Kb,Kc,Kd,Ke,Kf,Kg,Kh,Ki,Kj,Kk,Kl,Km,Kn,Ko,Kp,Kq,Kr,Ks,
 Kt,Ku,Kv,Kw,Kx,Ky,Kz,K0,K1,K2,K3,K4],[]⟩ w := by
  conv => arg 2; whnf
  go_still_tail 8, (by kernel_rfl)
  change wpList _ _ _ _ _ w.drew
  go_wp2
  exact hQ _ _ _ _ _ _ _ _

set_option maxRecDepth 100000 in
theorem mixSchedA {T : Array Value} {l0 l1 l4 l6 l8 l9 l10 l11 l12 l13 l14 l15 l16 l17 l18 l20 : Value} (y16 y15 y7 y2 : BitVec 32) (BW k : Nat) (hk1 : 16 ≤ k) (hk : k < 64) {w : World} (v0 : Value) (c16 : w.cell? ⟨BW, k - 16, none⟩ = some (.int .u32 (u y16))) (c15 : w.cell? ⟨BW, k - 15, none⟩ = some (.int .u32 (u y15))) (c7 : w.cell? ⟨BW, k - 7, none⟩ = some (.int .u32 (u y7))) (c2 : w.cell? ⟨BW, k - 2, none⟩ = some (.int .u32 (u y2)))
    (cw : w.cell? ⟨BW, k, none⟩ = some v0) (cf : w.frozen? ⟨BW, k, none⟩ = false) {Q : Exit → Act → World → Prop} (hL : mixLive T l0 l1 l4 (.pointer (some ⟨BW, 0, none⟩)) l6 (.int .i64 (k : Int)) l8 l9 l10 l11 l12 l13 l14 l15 l16 l17 l18 l20)
    (hQ : ∀ (T' : Array Value), mixLive T' l0 l1 l4 (.pointer (some ⟨BW, 0, none⟩)) l6 (.int .i64 (k : Int)) l8 l9 l10 l11 l12 l13 l14 l15 l16 l17 l18 l20 → Q .normal ⟨T', []⟩ ((w.setCell ⟨BW, k, none⟩ (.int .u32 (u (y16 + Sha.sig0 y15 + y7 + Sha.sig1 y2)))).drew)) : Code.wp Try.prog (mixReg 10) Q ⟨T, []⟩ w := by
  rw [mixOut T hL.size]
  rw [hL.s0, hL.s1, hL.s4, hL.s5, hL.s6, hL.s7, hL.s8, hL.s9, hL.s10, hL.s11, hL.s12, hL.s13, hL.s14, hL.s15, hL.s16, hL.s17, hL.s18, hL.s20]
  refine mixSched y16 y15 y7 y2 BW k hk1 hk v0 c16 c15 c7 c2 cw cf ?_
  intros
  exact hQ _ ⟨rfl, rfl, rfl, rfl, rfl, rfl, rfl, rfl, rfl, rfl, rfl, rfl, rfl, rfl, rfl, rfl, rfl, rfl, rfl⟩

set_option maxRecDepth 100000 in
theorem mixLoadsA {T : Array Value} {l1 l4 l5 l6 l7 l8 l9 l10 l11 l12 l13 l14 l15 l16 l17 l18 l20 : Value} (s : Sha.S8) (g : Nat) {w : World} (c0 : w.cell? ⟨g, 0, none⟩ = some (.int .u32 (u s.a))) (c1 : w.cell? ⟨g, 1, none⟩ = some (.int .u32 (u s.b))) (c2 : w.cell? ⟨g, 2, none⟩ = some (.int .u32 (u s.c))) (c3 : w.cell? ⟨g, 3, none⟩ = some (.int .u32 (u s.d))) (c4 : w.cell? ⟨g, 4, none⟩ = some (.int .u32 (u s.e))) (c5 : w.cell? ⟨g, 5, none⟩ = some (.int .u32 (u s.f))) (c6 : w.cell? ⟨g, 6, none⟩ = some (.int .u32 (u s.g))) (c7 : w.cell? ⟨g, 7, none⟩ = some (.int .u32 (u s.h))) {Q : Exit → Act → World → Prop} (hL : mixLive T (.pointer (some ⟨g, 0, none⟩)) l1 l4 l5 l6 l7 l8 l9 l10 l11 l12 l13 l14 l15 l16 l17 l18 l20)
    (hQ : ∀ (T' : Array Value) (m : Nat), mixLive T' (.pointer (some ⟨g, 0, none⟩)) l1 l4 l5 l6 l7 (.int .u32 (u s.a)) (.int .u32 (u s.b)) (.int .u32 (u s.c)) (.int .u32 (u s.d)) (.int .u32 (u s.e)) (.int .u32 (u s.f)) (.int .u32 (u s.g)) (.int .u32 (u s.h)) l16 l17 l18 l20 → Q .normal ⟨T', []⟩ (w.drewN m)) : Code.wp Try.prog (mixReg 11) Q ⟨T, []⟩ w := by
  rw [mixOut T hL.size]
  rw [hL.s0, hL.s1, hL.s4, hL.s5, hL.s6, hL.s7, hL.s8, hL.s9, hL.s10, hL.s11, hL.s12, hL.s13, hL.s14, hL.s15, hL.s16, hL.s17, hL.s18, hL.s20]
  refine mixLoads s g c0 c1 c2 c3 c4 c5 c6 c7 ?_
  intros
  exact hQ _ _ ⟨rfl, rfl, rfl, rfl, rfl, rfl, rfl, rfl, rfl, rfl, rfl, rfl, rfl, rfl, rfl, rfl, rfl, rfl, rfl⟩

set_option maxRecDepth 100000 in
theorem mixCutsA {T : Array Value} {l0 l1 l6 l7 l8 l9 l10 l11 l12 l13 l14 l15 l17 l18 l20 : Value} (BT BW k : Nat) (hk : k ≤ 56) {w : World} {Q : Exit → Act → World → Prop} (hL : mixLive T l0 l1 (.pointer (some ⟨BT, 0, none⟩)) (.pointer (some ⟨BW, 0, none⟩)) l6 l7 l8 l9 l10 l11 l12 l13 l14 l15 (.int .i64 (k : Int)) l17 l18 l20)
 (hQ : ∀ (T' : Array Value) (m : Nat),mixLive T' l0 l1 (.pointer (some ⟨BT,0,none⟩)) (.pointer (some ⟨BW,0,none⟩)) l6 l7 l8 l9 l10 l11 l12 l13 l14 l15 (.int .i64 (k : Int)) (.pointer (some ⟨BT,k,none⟩)) (.pointer (some ⟨BW,k,none⟩)) l20 → Q .normal ⟨T',[]⟩ (w.drewN m)) : Code.wp Try.prog (mixReg 15) Q ⟨T,[]⟩ w := by
  rw [mixOut T hL.size]
  rw [hL.s0, hL.s1, hL.s4, hL.s5, hL.s6, hL.s7, hL.s8, hL.s9, hL.s10, hL.s11, hL.s12, hL.s13, hL.s14, hL.s15, hL.s16, hL.s17, hL.s18, hL.s20]
  refine mixCuts BT BW k hk ?_
  intros
  exact hQ _ _ ⟨rfl, rfl, rfl, rfl, rfl, rfl, rfl, rfl, rfl, rfl, rfl, rfl, rfl, rfl, rfl, rfl, rfl, rfl, rfl⟩

set_option maxRecDepth 100000 in
theorem mixStore0A {T : Array Value} {l1 l4 l5 l6 l7 l9 l10 l11 l12 l13 l14 l15 l16 l17 l18 l20 : Value} (x y : BitVec 32) (g : Nat) {w : World} (c : w.cell? ⟨g, 0, none⟩ = some (.int .u32 (u x))) (cf : w.frozen? ⟨g, 0, none⟩ = false) {Q : Exit → Act → World → Prop} (hL : mixLive T (.pointer (some ⟨g, 0, none⟩)) l1 l4 l5 l6 l7 (.int .u32 (u y)) l9 l10 l11 l12 l13 l14 l15 l16 l17 l18 l20)
    (hQ : ∀ (T' : Array Value), mixLive T' (.pointer (some ⟨g, 0, none⟩)) l1 l4 l5 l6 l7 (.int .u32 (u y)) l9 l10 l11 l12 l13 l14 l15 l16 l17 l18 l20 → Q .normal ⟨T', []⟩ ((w.setCell ⟨g, 0, none⟩ (.int .u32 (u (x + y)))).drew)) : Code.wp Try.prog (mixReg 32) Q ⟨T, []⟩ w := by
  rw [mixOut T hL.size]
  rw [hL.s0, hL.s1, hL.s4, hL.s5, hL.s6, hL.s7, hL.s8, hL.s9, hL.s10, hL.s11, hL.s12, hL.s13, hL.s14, hL.s15, hL.s16, hL.s17, hL.s18, hL.s20]
  refine mixStore0 x y g c cf ?_
  intros
  exact hQ _ ⟨rfl, rfl, rfl, rfl, rfl, rfl, rfl, rfl, rfl, rfl, rfl, rfl, rfl, rfl, rfl, rfl, rfl, rfl, rfl⟩

set_option maxRecDepth 100000 in
theorem mixStore1A {T : Array Value} {l1 l4 l5 l6 l7 l8 l10 l11 l12 l13 l14 l15 l16 l17 l18 l20 : Value} (x y : BitVec 32) (g : Nat) {w : World} (c : w.cell? ⟨g, 1, none⟩ = some (.int .u32 (u x))) (cf : w.frozen? ⟨g, 1, none⟩ = false) {Q : Exit → Act → World → Prop} (hL : mixLive T (.pointer (some ⟨g, 0, none⟩)) l1 l4 l5 l6 l7 l8 (.int .u32 (u y)) l10 l11 l12 l13 l14 l15 l16 l17 l18 l20)
    (hQ : ∀ (T' : Array Value), mixLive T' (.pointer (some ⟨g, 0, none⟩)) l1 l4 l5 l6 l7 l8 (.int .u32 (u y)) l10 l11 l12 l13 l14 l15 l16 l17 l18 l20 → Q .normal ⟨T', []⟩ ((w.setCell ⟨g, 1, none⟩ (.int .u32 (u (x + y)))).drew)) : Code.wp Try.prog (mixReg 33) Q ⟨T, []⟩ w := by
  rw [mixOut T hL.size]
  rw [hL.s0, hL.s1, hL.s4, hL.s5, hL.s6, hL.s7, hL.s8, hL.s9, hL.s10, hL.s11, hL.s12, hL.s13, hL.s14, hL.s15, hL.s16, hL.s17, hL.s18, hL.s20]
  refine mixStore1 x y g c cf ?_
  intros
  exact hQ _ ⟨rfl, rfl, rfl, rfl, rfl, rfl, rfl, rfl, rfl, rfl, rfl, rfl, rfl, rfl, rfl, rfl, rfl, rfl, rfl⟩

set_option maxRecDepth 100000 in
theorem mixStore2A {T : Array Value} {l1 l4 l5 l6 l7 l8 l9 l11 l12 l13 l14 l15 l16 l17 l18 l20 : Value} (x y : BitVec 32) (g : Nat) {w : World} (c : w.cell? ⟨g, 2, none⟩ = some (.int .u32 (u x))) (cf : w.frozen? ⟨g, 2, none⟩ = false) {Q : Exit → Act → World → Prop} (hL : mixLive T (.pointer (some ⟨g, 0, none⟩)) l1 l4 l5 l6 l7 l8 l9 (.int .u32 (u y)) l11 l12 l13 l14 l15 l16 l17 l18 l20)
    (hQ : ∀ (T' : Array Value), mixLive T' (.pointer (some ⟨g, 0, none⟩)) l1 l4 l5 l6 l7 l8 l9 (.int .u32 (u y)) l11 l12 l13 l14 l15 l16 l17 l18 l20 → Q .normal ⟨T', []⟩ ((w.setCell ⟨g, 2, none⟩ (.int .u32 (u (x + y)))).drew)) : Code.wp Try.prog (mixReg 34) Q ⟨T, []⟩ w := by
  rw [mixOut T hL.size]
  rw [hL.s0, hL.s1, hL.s4, hL.s5, hL.s6, hL.s7, hL.s8, hL.s9, hL.s10, hL.s11, hL.s12, hL.s13, hL.s14, hL.s15, hL.s16, hL.s17, hL.s18, hL.s20]
  refine mixStore2 x y g c cf ?_
  intros
  exact hQ _ ⟨rfl, rfl, rfl, rfl, rfl, rfl, rfl, rfl, rfl, rfl, rfl, rfl, rfl, rfl, rfl, rfl, rfl, rfl, rfl⟩

set_option maxRecDepth 100000 in
theorem mixStore3A {T : Array Value} {l1 l4 l5 l6 l7 l8 l9 l10 l12 l13 l14 l15 l16 l17 l18 l20 : Value} (x y : BitVec 32) (g : Nat) {w : World} (c : w.cell? ⟨g, 3, none⟩ = some (.int .u32 (u x))) (cf : w.frozen? ⟨g, 3, none⟩ = false) {Q : Exit → Act → World → Prop} (hL : mixLive T (.pointer (some ⟨g, 0, none⟩)) l1 l4 l5 l6 l7 l8 l9 l10 (.int .u32 (u y)) l12 l13 l14 l15 l16 l17 l18 l20)
    (hQ : ∀ (T' : Array Value), mixLive T' (.pointer (some ⟨g, 0, none⟩)) l1 l4 l5 l6 l7 l8 l9 l10 (.int .u32 (u y)) l12 l13 l14 l15 l16 l17 l18 l20 → Q .normal ⟨T', []⟩ ((w.setCell ⟨g, 3, none⟩ (.int .u32 (u (x + y)))).drew)) : Code.wp Try.prog (mixReg 35) Q ⟨T, []⟩ w := by
  rw [mixOut T hL.size]
  rw [hL.s0, hL.s1, hL.s4, hL.s5, hL.s6, hL.s7, hL.s8, hL.s9, hL.s10, hL.s11, hL.s12, hL.s13, hL.s14, hL.s15, hL.s16, hL.s17, hL.s18, hL.s20]
  refine mixStore3 x y g c cf ?_
  intros
  exact hQ _ ⟨rfl, rfl, rfl, rfl, rfl, rfl, rfl, rfl, rfl, rfl, rfl, rfl, rfl, rfl, rfl, rfl, rfl, rfl, rfl⟩

set_option maxRecDepth 100000 in
theorem mixStore4A {T : Array Value} {l1 l4 l5 l6 l7 l8 l9 l10 l11 l13 l14 l15 l16 l17 l18 l20 : Value} (x y : BitVec 32) (g : Nat) {w : World} (c : w.cell? ⟨g, 4, none⟩ = some (.int .u32 (u x))) (cf : w.frozen? ⟨g, 4, none⟩ = false) {Q : Exit → Act → World → Prop} (hL : mixLive T (.pointer (some ⟨g, 0, none⟩)) l1 l4 l5 l6 l7 l8 l9 l10 l11 (.int .u32 (u y)) l13 l14 l15 l16 l17 l18 l20)
    (hQ : ∀ (T' : Array Value), mixLive T' (.pointer (some ⟨g, 0, none⟩)) l1 l4 l5 l6 l7 l8 l9 l10 l11 (.int .u32 (u y)) l13 l14 l15 l16 l17 l18 l20 → Q .normal ⟨T', []⟩ ((w.setCell ⟨g, 4, none⟩ (.int .u32 (u (x + y)))).drew)) : Code.wp Try.prog (mixReg 36) Q ⟨T, []⟩ w := by
  rw [mixOut T hL.size]
  rw [hL.s0, hL.s1, hL.s4, hL.s5, hL.s6, hL.s7, hL.s8, hL.s9, hL.s10, hL.s11, hL.s12, hL.s13, hL.s14, hL.s15, hL.s16, hL.s17, hL.s18, hL.s20]
  refine mixStore4 x y g c cf ?_
  intros
  exact hQ _ ⟨rfl, rfl, rfl, rfl, rfl, rfl, rfl, rfl, rfl, rfl, rfl, rfl, rfl, rfl, rfl, rfl, rfl, rfl, rfl⟩

set_option maxRecDepth 100000 in
theorem mixStore5A {T : Array Value} {l1 l4 l5 l6 l7 l8 l9 l10 l11 l12 l14 l15 l16 l17 l18 l20 : Value} (x y : BitVec 32) (g : Nat) {w : World} (c : w.cell? ⟨g, 5, none⟩ = some (.int .u32 (u x))) (cf : w.frozen? ⟨g, 5, none⟩ = false) {Q : Exit → Act → World → Prop} (hL : mixLive T (.pointer (some ⟨g, 0, none⟩)) l1 l4 l5 l6 l7 l8 l9 l10 l11 l12 (.int .u32 (u y)) l14 l15 l16 l17 l18 l20)
    (hQ : ∀ (T' : Array Value), mixLive T' (.pointer (some ⟨g, 0, none⟩)) l1 l4 l5 l6 l7 l8 l9 l10 l11 l12 (.int .u32 (u y)) l14 l15 l16 l17 l18 l20 → Q .normal ⟨T', []⟩ ((w.setCell ⟨g, 5, none⟩ (.int .u32 (u (x + y)))).drew)) : Code.wp Try.prog (mixReg 37) Q ⟨T, []⟩ w := by
  rw [mixOut T hL.size]
  rw [hL.s0, hL.s1, hL.s4, hL.s5, hL.s6, hL.s7, hL.s8, hL.s9, hL.s10, hL.s11, hL.s12, hL.s13, hL.s14, hL.s15, hL.s16, hL.s17, hL.s18, hL.s20]
  refine mixStore5 x y g c cf ?_
  intros
  exact hQ _ ⟨rfl, rfl, rfl, rfl, rfl, rfl, rfl, rfl, rfl, rfl, rfl, rfl, rfl, rfl, rfl, rfl, rfl, rfl, rfl⟩

set_option maxRecDepth 100000 in
theorem mixStore6A {T : Array Value} {l1 l4 l5 l6 l7 l8 l9 l10 l11 l12 l13 l15 l16 l17 l18 l20 : Value} (x y : BitVec 32) (g : Nat) {w : World} (c : w.cell? ⟨g, 6, none⟩ = some (.int .u32 (u x))) (cf : w.frozen? ⟨g, 6, none⟩ = false) {Q : Exit → Act → World → Prop} (hL : mixLive T (.pointer (some ⟨g, 0, none⟩)) l1 l4 l5 l6 l7 l8 l9 l10 l11 l12 l13 (.int .u32 (u y)) l15 l16 l17 l18 l20)
    (hQ : ∀ (T' : Array Value), mixLive T' (.pointer (some ⟨g, 0, none⟩)) l1 l4 l5 l6 l7 l8 l9 l10 l11 l12 l13 (.int .u32 (u y)) l15 l16 l17 l18 l20 → Q .normal ⟨T', []⟩ ((w.setCell ⟨g, 6, none⟩ (.int .u32 (u (x + y)))).drew)) : Code.wp Try.prog (mixReg 38) Q ⟨T, []⟩ w := by
  rw [mixOut T hL.size]
  rw [hL.s0, hL.s1, hL.s4, hL.s5, hL.s6, hL.s7, hL.s8, hL.s9, hL.s10, hL.s11, hL.s12, hL.s13, hL.s14, hL.s15, hL.s16, hL.s17, hL.s18, hL.s20]
  refine mixStore6 x y g c cf ?_
  intros
  exact hQ _ ⟨rfl, rfl, rfl, rfl, rfl, rfl, rfl, rfl, rfl, rfl, rfl, rfl, rfl, rfl, rfl, rfl, rfl, rfl, rfl⟩

set_option maxRecDepth 100000 in
theorem mixStore7A {T : Array Value} {l1 l4 l5 l6 l7 l8 l9 l10 l11 l12 l13 l14 l16 l17 l18 l20 : Value} (x y : BitVec 32) (g : Nat) {w : World} (c : w.cell? ⟨g, 7, none⟩ = some (.int .u32 (u x))) (cf : w.frozen? ⟨g, 7, none⟩ = false) {Q : Exit → Act → World → Prop} (hL : mixLive T (.pointer (some ⟨g, 0, none⟩)) l1 l4 l5 l6 l7 l8 l9 l10 l11 l12 l13 l14 (.int .u32 (u y)) l16 l17 l18 l20)
    (hQ : ∀ (T' : Array Value), mixLive T' (.pointer (some ⟨g, 0, none⟩)) l1 l4 l5 l6 l7 l8 l9 l10 l11 l12 l13 l14 (.int .u32 (u y)) l16 l17 l18 l20 → Q .normal ⟨T', []⟩ ((w.setCell ⟨g, 7, none⟩ (.int .u32 (u (x + y)))).drew)) : Code.wp Try.prog (mixReg 39) Q ⟨T, []⟩ w := by
  rw [mixOut T hL.size]
  rw [hL.s0, hL.s1, hL.s4, hL.s5, hL.s6, hL.s7, hL.s8, hL.s9, hL.s10, hL.s11, hL.s12, hL.s13, hL.s14, hL.s15, hL.s16, hL.s17, hL.s18, hL.s20]
  refine mixStore7 x y g c cf ?_
  intros
  exact hQ _ ⟨rfl, rfl, rfl, rfl, rfl, rfl, rfl, rfl, rfl, rfl, rfl, rfl, rfl, rfl, rfl, rfl, rfl, rfl, rfl⟩

end Go.Proofs.Ytpjfhbmegabafaa
