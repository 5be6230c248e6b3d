/- Regions of sha.mix, one by one. Made by tools/regions.py. -/
import Derived.Test.YtpjfhbmegabafaaLMixWord
namespace Go.Proofs.Ytpjfhbmegabafaa
open Go.RowKit
attribute [local go_sem] u_add u_wrap_add u_or u_and u_xor

set_option maxRecDepth 100000 in
set_option maxHeartbeats 2000000 in
theorem mixUp0 {Aa Ab Ac Ad Ae Af Ag Ah La Lb Lc Ai Aj Ak Al Am An Ao Ap Aq Ar As Au Av Aw Ax Ay Az A0 A1 A2 A3 A4 A5 A6 A7 A8 A9 Ba Bb Bc Bd Be Bf Bg Bh Bi Bj Bk Bl Bm Bn Bo Bp Bq Br Bs Bt Bu Bv Bw Bx Bz B0 B1 B2 B3 B4 B5 B6 B7 B8 B9 Ca Cb Cc Cd Ce Cf Cg Ch Ci Cj Ck Cl Cm Cn Co Cp Cq Cr Cs Ct Cu Cv Cw Cx Cy Cz C0 C1 C2 C3 C4 C5 C6 C7 C8 C9 Da Db Dc Dd De Df Dg Dh Di Dj Dk Dl Dm Dn Dp Dq Dr Ds Dt Du Dv Dw Dx Dy Dz D0 D1 D2 D3 D4 D5 D6 D7 D8 Ja Jb Jc Jd Je Jf Jg Jh Ji D9 Ea Eb Ec Ed Ee Ef Eg Eh Ei Ej Ek El Em En Eo Jj Jk Jl Jm Jn Jo Jp Jq Jr Ep Er Es Et Eu Ev Ew Ex Ey Ez E0 E1 E2 E3 E4 E5 Js Jt Ju Jv Jw Jx Jy Jz J0 E6 E7 E8 E9 Fa Fb Fc Fd Fe Ff Fg Fh Fi Fj Fk Fl J1 J2 J3 J4 J5 J6 J7 J8 J9 Fm Fn Fo Fp Fq Fr Fs Ft Fu Fv Fw Fx Fy Fz F0 F1 Ka Kb Kc Kd Ke Kf Kg Kh Ki F2 F3 F4 F5 F6 F7 F8 F9 Ga Gb Gc Gd Ge Gf Gg Gh Kj Kk Kl Km Kn Ko Kp Kq Kr Gi Gj Gk Gl Gm Gn Gp Gq Gr Gs Gt Gu Gv Gw Gx Gy Ks Kt Ku Kv Kw Kx Ky Kz K0 Gz G0 G1 G2 G3 G4 G5 G6 G7 G8 G9 Ha Hb Hc Hd He K1 K2 K3 K4 K5 K6 K7 K8 K9 Hf Hg Hh Hi Hj Hk Hl Hm Hn Ho Hp Hq Hr Hs Ht Hu Hv Hw Hx Hy Hz H0 H1 H2 H3 H4 H5 H6 H7 H8 H9 Ia Ib Ic Ie Ig Ih Ii Ij Ik Il Im Io Ip Iq Ir Is It Iu Iv Iw Ix Iy Iz I0 I1 I2 I3 I4 I5 I6 I7 I8 I9 : Value} (a b c d h : BitVec 32) {w : World} {Q : Exit → Act → World → Prop}
    (hQ : ∀ (Li Lj Lk Ll Lm Ln Lo Lp Lq : Value), Q .normal ⟨#[
 Aa,Ab,Ac,Ad,Ae,Af,Ag,Ah,(.int .u32 (u (a))),(.int .u32 (u (b))),(.int .u32 (u (c))),.int .u32 (u (d + h)),La,Lb,Lc,.int .u32 (u (h + (Sha.sum0 a + Sha.maj a b c))),Ai,
 Aj,Ak,Al,Am,An,Ao,Ap,Aq,Ar,As,Au,Av,Aw,Ax,Ay,Az,A0,A1,A2,A3,A4,A5,A6,A7,A8,A9,Ba,Bb,Bc,Bd,Be,Bf,Bg,
 Bh,Bi,Bj,Bk,Bl,Bm,Bn,Bo,Bp,Bq,Br,Bs,Bt,Bu,Bv,Bw,Bx,Bz,B0,B1,B2,B3,B4,B5,B6,B7,B8,B9,Ca,Cb,Cc,Cd,Ce,
 Cf,Cg,Ch,Ci,Cj,Ck,Cl,Cm,Cn,Co,Cp,Cq,Cr,Cs,Ct,Cu,Cv,Cw,Cx,Cy,Cz,C0,C1,C2,C3,C4,C5,C6,C7,C8,C9,
 Da,Db,Dc,Dd,De,Df,Dg,Dh,Di,Dj,Dk,Dl,Dm,Dn,Dp,Dq,Dr,Ds,Dt,Du,Dv,Dw,Dx,Dy,Dz,D0,D1,D2,D3,
 D4,D5,D6,D7,D8,Li,Lj,Lk,Ll,Lm,Ln,Lo,Lp,Lq,D9,Ea,Eb,Ec,Ed,Ee,Ef,Eg,Eh,Ei,Ej,Ek,El,Em,En,
 Eo,Jj,Jk,Jl,Jm,Jn,Jo,Jp,Jq,Jr,Ep,Er,Es,Et,Eu,Ev,Ew,Ex,Ey,Ez,E0,E1,E2,E3,E4,E5,Js,Jt,Ju,
 Jv,Jw,Jx,Jy,Jz,J0,E6,E7,E8,E9,Fa,Fb,Fc,Fd,Fe,Ff,Fg,Fh,Fi,Fj,Fk,Fl,J1,J2,J3,J4,J5,J6,J7,
 J8,J9,Fm,Fn,Fo,Fp,Fq,Fr,Fs,Ft,Fu,Fv,Fw,Fx,Fy,Fz,F0,F1,Ka,Kb,Kc,Kd,Ke,Kf,Kg,Kh,Ki,F2,F3,
 F4,F5,F6,F7,F8,F9,Ga,Gb,Gc,Gd,Ge,Gf,Gg,Gh,Kj,Kk,Kl,Km,Kn,Ko,Kp,Kq,Kr,Gi,Gj,Gk,Gl,Gm,Gn,
 Gp,Gq,Gr,Gs,Gt,Gu,Gv,Gw,Gx,Gy,Ks,Kt,Ku,Kv,Kw,Kx,Ky,Kz,K0,Gz,G0,G1,G2,G3,G4,G5,G6,G7,G8,
 G9,Ha,Hb,Hc,Hd,He,K1,K2,K3,K4,K5,K6,K7,K8,K9,Hf,Hg,Hh,Hi,Hj,Hk,Hl,Hm,Hn,Ho,Hp,Hq,Hr,Hs,
 Ht,Hu,Hv,Hw,Hx,Hy,Hz,H0,H1,H2,H3,H4,H5,H6,H7,H8,H9,Ia,Ib,Ic,Ie,Ig,Ih,Ii,Ij,Ik,Il,Im,Io,
 Ip,Iq,Ir,Is,It,Iu,Iv,Iw,Ix,Iy,Iz,I0,I1,I2,I3,I4,I5,I6,I7,I8,I9],[]⟩ (w)) :
    Code.wp Try.prog (mixReg 17) Q ⟨#[
 Aa,Ab,Ac,Ad,Ae,Af,Ag,Ah,(.int .u32 (u (a))),(.int .u32 (u (b))),(.int .u32 (u (c))),(.int .u32 (u (d))),La,Lb,Lc,(.int .u32 (u (h))),Ai,Aj,Ak,Al,Am,An,
 Ao,Ap,Aq,Ar,As,Au,Av,Aw,Ax,Ay,Az,A0,A1,A2,A3,A4,A5,A6,A7,A8,A9,Ba,Bb,Bc,Bd,Be,Bf,Bg,Bh,Bi,Bj,Bk,Bl,
 Bm,Bn,Bo,Bp,Bq,Br,Bs,Bt,Bu,Bv,Bw,Bx,Bz,B0,B1,B2,B3,B4,B5,B6,B7,B8,B9,Ca,Cb,Cc,Cd,Ce,Cf,Cg,Ch,Ci,Cj,
 Ck,Cl,Cm,Cn,Co,Cp,Cq,Cr,Cs,Ct,Cu,Cv,Cw,Cx,Cy,Cz,C0,C1,C2,C3,C4,C5,C6,C7,C8,C9,Da,Db,Dc,Dd,
 De,Df,Dg,Dh,Di,Dj,Dk,Dl,Dm,Dn,Dp,Dq,Dr,Ds,Dt,Du,Dv,Dw,Dx,Dy,Dz,D0,D1,D2,D3,D4,D5,D6,D7,
 D8,Ja,Jb,Jc,Jd,Je,Jf,Jg,Jh,Ji,D9,Ea,Eb,Ec,Ed,Ee,Ef,Eg,Eh,Ei,Ej,Ek,El,Em,En,Eo,Jj,Jk,Jl,
 Jm,Jn,Jo,Jp,Jq,Jr,Ep,Er,Es,Et,Eu,Ev,Ew,Ex,Ey,Ez,E0,E1,E2,E3,E4,E5,Js,Jt,Ju,Jv,Jw,Jx,Jy,
 Jz,J0,E6,E7,E8,E9,Fa,Fb,Fc,Fd,Fe,Ff,Fg,Fh,Fi,Fj,Fk,Fl,J1,J2,J3,J4,J5,J6,J7,J8,J9,Fm,Fn,
 Fo,Fp,Fq,Fr,Fs,Ft,Fu,Fv,Fw,Fx,Fy,Fz,F0,F1,Ka,Kb,Kc,Kd,Ke,Kf,Kg,Kh,Ki,F2,F3,F4,F5,F6,F7,
 F8,F9,Ga,Gb,Gc,Gd,Ge,Gf,Gg,Gh,Kj,Kk,Kl,Km,Kn,Ko,Kp,Kq,Kr,Gi,Gj,Gk,Gl,Gm,Gn,Gp,Gq,Gr,Gs,
 Gt,Gu,Gv,Gw,Gx,Gy,Ks,Kt,Ku,Kv,Kw,Kx,Ky,Kz,K0,Gz,G0,G1,G2,G3,G4,G5,G6,G7,G8,G9,Ha,Hb,Hc,
 Hd,He,K1,K2,K3,K4,K5,K6,K7,K8,K9,Hf,Hg,Hh,Hi,Hj,Hk,Hl,Hm,Hn,Ho,Hp,Hq,Hr,Hs,Ht,Hu,Hv,Hw,
 Hx,Hy,Hz,H0,H1,H2,H3,H4,H5,H6,H7,H8,H9,Ia,Ib,Ic,Ie,Ig,Ih,Ii,Ij,Ik,Il,Im,Io,Ip,Iq,Ir,Is,
 It,Iu,Iv,Iw,Ix,Iy,Iz,I0,I1,I2,I3,I4,I5,I6,I7,I8,I9],[]⟩ w := by
  conv => arg 2; whnf
  go_wp2_with (go_at_call 106; refine (upper_word _ _ _ _).mono ?_; rintro e w' ⟨rfl, hw'⟩; subst hw')
  exact hQ _ _ _ _ _ _ _ _ _

set_option maxRecDepth 100000 in
set_option maxHeartbeats 2000000 in
theorem mixUp1 {Aa Ab Ac Ad Ae Af Ag Ah Ld La Lb Ai Aj Ak Al Am An Ao Ap Aq Ar As Au Av Aw Ax Ay Az A0 A1 A2 A3 A4 A5 A6 A7 A8 A9 Ba Bb Bc Bd Be Bf Bg Bh Bi Bj Bk Bl Bm Bn Bo Bp Bq Br Bs Bt Bu Bv Bw Bx Bz B0 B1 B2 B3 B4 B5 B6 B7 B8 B9 Ca Cb Cc Cd Ce Cf Cg Ch Ci Cj Ck Cl Cm Cn Co Cp Cq Cr Cs Ct Cu Cv Cw Cx Cy Cz C0 C1 C2 C3 C4 C5 C6 C7 C8 C9 Da Db Dc Dd De Df Dg Dh Di Dj Dk Dl Dm Dn Dp Dq Dr Ds Dt Du Dv Dw Dx Dy Dz D0 D1 D2 D3 D4 D5 D6 D7 D8 Ja Jb Jc Jd Je Jf Jg Jh Ji D9 Ea Eb Ec Ed Ee Ef Eg Eh Ei Ej Ek El Em En Eo Jj Jk Jl Jm Jn Jo Jp Jq Jr Ep Er Es Et Eu Ev Ew Ex Ey Ez E0 E1 E2 E3 E4 E5 Js Jt Ju Jv Jw Jx Jy Jz J0 E6 E7 E8 E9 Fa Fb Fc Fd Fe Ff Fg Fh Fi Fj Fk Fl J1 J2 J3 J4 J5 J6 J7 J8 J9 Fm Fn Fo Fp Fq Fr Fs Ft Fu Fv Fw Fx Fy Fz F0 F1 Ka Kb Kc Kd Ke Kf Kg Kh Ki F2 F3 F4 F5 F6 F7 F8 F9 Ga Gb Gc Gd Ge Gf Gg Gh Kj Kk Kl Km Kn Ko Kp Kq Kr Gi Gj Gk Gl Gm Gn Gp Gq Gr Gs Gt Gu Gv Gw Gx Gy Ks Kt Ku Kv Kw Kx Ky Kz K0 Gz G0 G1 G2 G3 G4 G5 G6 G7 G8 G9 Ha Hb Hc Hd He K1 K2 K3 K4 K5 K6 K7 K8 K9 Hf Hg Hh Hi Hj Hk Hl Hm Hn Ho Hp Hq Hr Hs Ht Hu Hv Hw Hx Hy Hz H0 H1 H2 H3 H4 H5 H6 H7 H8 H9 Ia Ib Ic Ie Ig Ih Ii Ij Ik Il Im Io Ip Iq Ir Is It Iu Iv Iw Ix Iy Iz I0 I1 I2 I3 I4 I5 I6 I7 I8 I9 : Value} (a b c d h : BitVec 32) {w : World} {Q : Exit → Act → World → Prop}
    (hQ : ∀ (Lr Ls Lt Lu Lv Lw Lx Ly Lz : Value), Q .normal ⟨#[
 Aa,Ab,Ac,Ad,Ae,Af,Ag,Ah,(.int .u32 (u (b))),(.int .u32 (u (c))),.int .u32 (u (d + h)),Ld,La,Lb,.int .u32 (u (h + (Sha.sum0 a + Sha.maj a b c))),(.int .u32 (u (a))),Ai,
 Aj,Ak,Al,Am,An,Ao,Ap,Aq,Ar,As,Au,Av,Aw,Ax,Ay,Az,A0,A1,A2,A3,A4,A5,A6,A7,A8,A9,Ba,Bb,Bc,Bd,Be,Bf,Bg,
 Bh,Bi,Bj,Bk,Bl,Bm,Bn,Bo,Bp,Bq,Br,Bs,Bt,Bu,Bv,Bw,Bx,Bz,B0,B1,B2,B3,B4,B5,B6,B7,B8,B9,Ca,Cb,Cc,Cd,Ce,
 Cf,Cg,Ch,Ci,Cj,Ck,Cl,Cm,Cn,Co,Cp,Cq,Cr,Cs,Ct,Cu,Cv,Cw,Cx,Cy,Cz,C0,C1,C2,C3,C4,C5,C6,C7,C8,C9,
 Da,Db,Dc,Dd,De,Df,Dg,Dh,Di,Dj,Dk,Dl,Dm,Dn,Dp,Dq,Dr,Ds,Dt,Du,Dv,Dw,Dx,Dy,Dz,D0,D1,D2,D3,
 D4,D5,D6,D7,D8,Ja,Jb,Jc,Jd,Je,Jf,Jg,Jh,Ji,D9,Ea,Eb,Ec,Ed,Ee,Ef,Eg,Eh,Ei,Ej,Ek,El,Em,En,
 Eo,Lr,Ls,Lt,Lu,Lv,Lw,Lx,Ly,Lz,Ep,Er,Es,Et,Eu,Ev,Ew,Ex,Ey,Ez,E0,E1,E2,E3,E4,E5,Js,Jt,Ju,
 Jv,Jw,Jx,Jy,Jz,J0,E6,E7,E8,E9,Fa,Fb,Fc,Fd,Fe,Ff,Fg,Fh,Fi,Fj,Fk,Fl,J1,J2,J3,J4,J5,J6,J7,
 J8,J9,Fm,Fn,Fo,Fp,Fq,Fr,Fs,Ft,Fu,Fv,Fw,Fx,Fy,Fz,F0,F1,Ka,Kb,Kc,Kd,Ke,Kf,Kg,Kh,Ki,F2,F3,
 F4,F5,F6,F7,F8,F9,Ga,Gb,Gc,Gd,Ge,Gf,Gg,Gh,Kj,Kk,Kl,Km,Kn,Ko,Kp,Kq,Kr,Gi,Gj,Gk,Gl,Gm,Gn,
 Gp,Gq,Gr,Gs,Gt,Gu,Gv,Gw,Gx,Gy,Ks,Kt,Ku,Kv,Kw,Kx,Ky,Kz,K0,Gz,G0,G1,G2,G3,G4,G5,G6,G7,G8,
 G9,Ha,Hb,Hc,Hd,He,K1,K2,K3,K4,K5,K6,K7,K8,K9,Hf,Hg,Hh,Hi,Hj,Hk,Hl,Hm,Hn,Ho,Hp,Hq,Hr,Hs,
 Ht,Hu,Hv,Hw,Hx,Hy,Hz,H0,H1,H2,H3,H4,H5,H6,H7,H8,H9,Ia,Ib,Ic,Ie,Ig,Ih,Ii,Ij,Ik,Il,Im,Io,
 Ip,Iq,Ir,Is,It,Iu,Iv,Iw,Ix,Iy,Iz,I0,I1,I2,I3,I4,I5,I6,I7,I8,I9],[]⟩ (w)) :
    Code.wp Try.prog (mixReg 19) Q ⟨#[
 Aa,Ab,Ac,Ad,Ae,Af,Ag,Ah,(.int .u32 (u (b))),(.int .u32 (u (c))),(.int .u32 (u (d))),Ld,La,Lb,(.int .u32 (u (h))),(.int .u32 (u (a))),Ai,Aj,Ak,Al,Am,An,
 Ao,Ap,Aq,Ar,As,Au,Av,Aw,Ax,Ay,Az,A0,A1,A2,A3,A4,A5,A6,A7,A8,A9,Ba,Bb,Bc,Bd,Be,Bf,Bg,Bh,Bi,Bj,Bk,Bl,
 Bm,Bn,Bo,Bp,Bq,Br,Bs,Bt,Bu,Bv,Bw,Bx,Bz,B0,B1,B2,B3,B4,B5,B6,B7,B8,B9,Ca,Cb,Cc,Cd,Ce,Cf,Cg,Ch,Ci,Cj,
 Ck,Cl,Cm,Cn,Co,Cp,Cq,Cr,Cs,Ct,Cu,Cv,Cw,Cx,Cy,Cz,C0,C1,C2,C3,C4,C5,C6,C7,C8,C9,Da,Db,Dc,Dd,
 De,Df,Dg,Dh,Di,Dj,Dk,Dl,Dm,Dn,Dp,Dq,Dr,Ds,Dt,Du,Dv,Dw,Dx,Dy,Dz,D0,D1,D2,D3,D4,D5,D6,D7,
 D8,Ja,Jb,Jc,Jd,Je,Jf,Jg,Jh,Ji,D9,Ea,Eb,Ec,Ed,Ee,Ef,Eg,Eh,Ei,Ej,Ek,El,Em,En,Eo,Jj,Jk,Jl,
 Jm,Jn,Jo,Jp,Jq,Jr,Ep,Er,Es,Et,Eu,Ev,Ew,Ex,Ey,Ez,E0,E1,E2,E3,E4,E5,Js,Jt,Ju,Jv,Jw,Jx,Jy,
 Jz,J0,E6,E7,E8,E9,Fa,Fb,Fc,Fd,Fe,Ff,Fg,Fh,Fi,Fj,Fk,Fl,J1,J2,J3,J4,J5,J6,J7,J8,J9,Fm,Fn,
 Fo,Fp,Fq,Fr,Fs,Ft,Fu,Fv,Fw,Fx,Fy,Fz,F0,F1,Ka,Kb,Kc,Kd,Ke,Kf,Kg,Kh,Ki,F2,F3,F4,F5,F6,F7,
 F8,F9,Ga,Gb,Gc,Gd,Ge,Gf,Gg,Gh,Kj,Kk,Kl,Km,Kn,Ko,Kp,Kq,Kr,Gi,Gj,Gk,Gl,Gm,Gn,Gp,Gq,Gr,Gs,
 Gt,Gu,Gv,Gw,Gx,Gy,Ks,Kt,Ku,Kv,Kw,Kx,Ky,Kz,K0,Gz,G0,G1,G2,G3,G4,G5,G6,G7,G8,G9,Ha,Hb,Hc,
 Hd,He,K1,K2,K3,K4,K5,K6,K7,K8,K9,Hf,Hg,Hh,Hi,Hj,Hk,Hl,Hm,Hn,Ho,Hp,Hq,Hr,Hs,Ht,Hu,Hv,Hw,
 Hx,Hy,Hz,H0,H1,H2,H3,H4,H5,H6,H7,H8,H9,Ia,Ib,Ic,Ie,Ig,Ih,Ii,Ij,Ik,Il,Im,Io,Ip,Iq,Ir,Is,
 It,Iu,Iv,Iw,Ix,Iy,Iz,I0,I1,I2,I3,I4,I5,I6,I7,I8,I9],[]⟩ w := by
  conv => arg 2; whnf
  go_wp2_with (go_at_call 106; refine (upper_word _ _ _ _).mono ?_; rintro e w' ⟨rfl, hw'⟩; subst hw')
  exact hQ _ _ _ _ _ _ _ _ _

set_option maxRecDepth 100000 in
set_option maxHeartbeats 2000000 in
theorem mixUp2 {Aa Ab Ac Ad Ae Af Ag Ah Le Ld La Ai Aj Ak Al Am An Ao Ap Aq Ar As Au Av Aw Ax Ay Az A0 A1 A2 A3 A4 A5 A6 A7 A8 A9 Ba Bb Bc Bd Be Bf Bg Bh Bi Bj Bk Bl Bm Bn Bo Bp Bq Br Bs Bt Bu Bv Bw Bx Bz B0 B1 B2 B3 B4 B5 B6 B7 B8 B9 Ca Cb Cc Cd Ce Cf Cg Ch Ci Cj Ck Cl Cm Cn Co Cp Cq Cr Cs Ct Cu Cv Cw Cx Cy Cz C0 C1 C2 C3 C4 C5 C6 C7 C8 C9 Da Db Dc Dd De Df Dg Dh Di Dj Dk Dl Dm Dn Dp Dq Dr Ds Dt Du Dv Dw Dx Dy Dz D0 D1 D2 D3 D4 D5 D6 D7 D8 Ja Jb Jc Jd Je Jf Jg Jh Ji D9 Ea Eb Ec Ed Ee Ef Eg Eh Ei Ej Ek El Em En Eo Jj Jk Jl Jm Jn Jo Jp Jq Jr Ep Er Es Et Eu Ev Ew Ex Ey Ez E0 E1 E2 E3 E4 E5 Js Jt Ju Jv Jw Jx Jy Jz J0 E6 E7 E8 E9 Fa Fb Fc Fd Fe Ff Fg Fh Fi Fj Fk Fl J1 J2 J3 J4 J5 J6 J7 J8 J9 Fm Fn Fo Fp Fq Fr Fs Ft Fu Fv Fw Fx Fy Fz F0 F1 Ka Kb Kc Kd Ke Kf Kg Kh Ki F2 F3 F4 F5 F6 F7 F8 F9 Ga Gb Gc Gd Ge Gf Gg Gh Kj Kk Kl Km Kn Ko Kp Kq Kr Gi Gj Gk Gl Gm Gn Gp Gq Gr Gs Gt Gu Gv Gw Gx Gy Ks Kt Ku Kv Kw Kx Ky Kz K0 Gz G0 G1 G2 G3 G4 G5 G6 G7 G8 G9 Ha Hb Hc Hd He K1 K2 K3 K4 K5 K6 K7 K8 K9 Hf Hg Hh Hi Hj Hk Hl Hm Hn Ho Hp Hq Hr Hs Ht Hu Hv Hw Hx Hy Hz H0 H1 H2 H3 H4 H5 H6 H7 H8 H9 Ia Ib Ic Ie Ig Ih Ii Ij Ik Il Im Io Ip Iq Ir Is It Iu Iv Iw Ix Iy Iz I0 I1 I2 I3 I4 I5 I6 I7 I8 I9 : Value} (a b c d h : BitVec 32) {w : World} {Q : Exit → Act → World → Prop}
    (hQ : ∀ (L0 L1 L2 L3 L4 L5 L6 L7 L8 : Value), Q .normal ⟨#[
 Aa,Ab,Ac,Ad,Ae,Af,Ag,Ah,(.int .u32 (u (c))),.int .u32 (u (d + h)),Le,Ld,La,.int .u32 (u (h + (Sha.sum0 a + Sha.maj a b c))),(.int .u32 (u (a))),(.int .u32 (u (b))),Ai,
 Aj,Ak,Al,Am,An,Ao,Ap,Aq,Ar,As,Au,Av,Aw,Ax,Ay,Az,A0,A1,A2,A3,A4,A5,A6,A7,A8,A9,Ba,Bb,Bc,Bd,Be,Bf,Bg,
 Bh,Bi,Bj,Bk,Bl,Bm,Bn,Bo,Bp,Bq,Br,Bs,Bt,Bu,Bv,Bw,Bx,Bz,B0,B1,B2,B3,B4,B5,B6,B7,B8,B9,Ca,Cb,Cc,Cd,Ce,
 Cf,Cg,Ch,Ci,Cj,Ck,Cl,Cm,Cn,Co,Cp,Cq,Cr,Cs,Ct,Cu,Cv,Cw,Cx,Cy,Cz,C0,C1,C2,C3,C4,C5,C6,C7,C8,C9,
 Da,Db,Dc,Dd,De,Df,Dg,Dh,Di,Dj,Dk,Dl,Dm,Dn,Dp,Dq,Dr,Ds,Dt,Du,Dv,Dw,Dx,Dy,Dz,D0,D1,D2,D3,
 D4,D5,D6,D7,D8,Ja,Jb,Jc,Jd,Je,Jf,Jg,Jh,Ji,D9,Ea,Eb,Ec,Ed,Ee,Ef,Eg,Eh,Ei,Ej,Ek,El,Em,En,
 Eo,Jj,Jk,Jl,Jm,Jn,Jo,Jp,Jq,Jr,Ep,Er,Es,Et,Eu,Ev,Ew,Ex,Ey,Ez,E0,E1,E2,E3,E4,E5,L0,L1,L2,
 L3,L4,L5,L6,L7,L8,E6,E7,E8,E9,Fa,Fb,Fc,Fd,Fe,Ff,Fg,Fh,Fi,Fj,Fk,Fl,J1,J2,J3,J4,J5,J6,J7,
 J8,J9,Fm,Fn,Fo,Fp,Fq,Fr,Fs,Ft,Fu,Fv,Fw,Fx,Fy,Fz,F0,F1,Ka,Kb,Kc,Kd,Ke,Kf,Kg,Kh,Ki,F2,F3,
 F4,F5,F6,F7,F8,F9,Ga,Gb,Gc,Gd,Ge,Gf,Gg,Gh,Kj,Kk,Kl,Km,Kn,Ko,Kp,Kq,Kr,Gi,Gj,Gk,Gl,Gm,Gn,
 Gp,Gq,Gr,Gs,Gt,Gu,Gv,Gw,Gx,Gy,Ks,Kt,Ku,Kv,Kw,Kx,Ky,Kz,K0,Gz,G0,G1,G2,G3,G4,G5,G6,G7,G8,
 G9,Ha,Hb,Hc,Hd,He,K1,K2,K3,K4,K5,K6,K7,K8,K9,Hf,Hg,Hh,Hi,Hj,Hk,Hl,Hm,Hn,Ho,Hp,Hq,Hr,Hs,
 Ht,Hu,Hv,Hw,Hx,Hy,Hz,H0,H1,H2,H3,H4,H5,H6,H7,H8,H9,Ia,Ib,Ic,Ie,Ig,Ih,Ii,Ij,Ik,Il,Im,Io,
 Ip,Iq,Ir,Is,It,Iu,Iv,Iw,Ix,Iy,Iz,I0,I1,I2,I3,I4,I5,I6,I7,I8,I9],[]⟩ (w)) :
    Code.wp Try.prog (mixReg 21) Q ⟨#[
 Aa,Ab,Ac,Ad,Ae,Af,Ag,Ah,(.int .u32 (u (c))),(.int .u32 (u (d))),Le,Ld,La,(.int .u32 (u (h))),(.int .u32 (u (a))),(.int .u32 (u (b))),Ai,Aj,Ak,Al,Am,An,
 Ao,Ap,Aq,Ar,As,Au,Av,Aw,Ax,Ay,Az,A0,A1,A2,A3,A4,A5,A6,A7,A8,A9,Ba,Bb,Bc,Bd,Be,Bf,Bg,Bh,Bi,Bj,Bk,Bl,
 Bm,Bn,Bo,Bp,Bq,Br,Bs,Bt,Bu,Bv,Bw,Bx,Bz,B0,B1,B2,B3,B4,B5,B6,B7,B8,B9,Ca,Cb,Cc,Cd,Ce,Cf,Cg,Ch,Ci,Cj,
 Ck,Cl,Cm,Cn,Co,Cp,Cq,Cr,Cs,Ct,Cu,Cv,Cw,Cx,Cy,Cz,C0,C1,C2,C3,C4,C5,C6,C7,C8,C9,Da,Db,Dc,Dd,
 De,Df,Dg,Dh,Di,Dj,Dk,Dl,Dm,Dn,Dp,Dq,Dr,Ds,Dt,Du,Dv,Dw,Dx,Dy,Dz,D0,D1,D2,D3,D4,D5,D6,D7,
 D8,Ja,Jb,Jc,Jd,Je,Jf,Jg,Jh,Ji,D9,Ea,Eb,Ec,Ed,Ee,Ef,Eg,Eh,Ei,Ej,Ek,El,Em,En,Eo,Jj,Jk,Jl,
 Jm,Jn,Jo,Jp,Jq,Jr,Ep,Er,Es,Et,Eu,Ev,Ew,Ex,Ey,Ez,E0,E1,E2,E3,E4,E5,Js,Jt,Ju,Jv,Jw,Jx,Jy,
 Jz,J0,E6,E7,E8,E9,Fa,Fb,Fc,Fd,Fe,Ff,Fg,Fh,Fi,Fj,Fk,Fl,J1,J2,J3,J4,J5,J6,J7,J8,J9,Fm,Fn,
 Fo,Fp,Fq,Fr,Fs,Ft,Fu,Fv,Fw,Fx,Fy,Fz,F0,F1,Ka,Kb,Kc,Kd,Ke,Kf,Kg,Kh,Ki,F2,F3,F4,F5,F6,F7,
 F8,F9,Ga,Gb,Gc,Gd,Ge,Gf,Gg,Gh,Kj,Kk,Kl,Km,Kn,Ko,Kp,Kq,Kr,Gi,Gj,Gk,Gl,Gm,Gn,Gp,Gq,Gr,Gs,
 Gt,Gu,Gv,Gw,Gx,Gy,Ks,Kt,Ku,Kv,Kw,Kx,Ky,Kz,K0,Gz,G0,G1,G2,G3,G4,G5,G6,G7,G8,G9,Ha,Hb,Hc,
 Hd,He,K1,K2,K3,K4,K5,K6,K7,K8,K9,Hf,Hg,Hh,Hi,Hj,Hk,Hl,Hm,Hn,Ho,Hp,Hq,Hr,Hs,Ht,Hu,Hv,Hw,
 Hx,Hy,Hz,H0,H1,H2,H3,H4,H5,H6,H7,H8,H9,Ia,Ib,Ic,Ie,Ig,Ih,Ii,Ij,Ik,Il,Im,Io,Ip,Iq,Ir,Is,
 It,Iu,Iv,Iw,Ix,Iy,Iz,I0,I1,I2,I3,I4,I5,I6,I7,I8,I9],[]⟩ w := by
  conv => arg 2; whnf
  go_wp2_with (go_at_call 106; refine (upper_word _ _ _ _).mono ?_; rintro e w' ⟨rfl, hw'⟩; subst hw')
  exact hQ _ _ _ _ _ _ _ _ _

set_option maxRecDepth 100000 in
set_option maxHeartbeats 2000000 in
theorem mixUp3 {Aa Ab Ac Ad Ae Af Ag Ah Lf Le Ld Ai Aj Ak Al Am An Ao Ap Aq Ar As Au Av Aw Ax Ay Az A0 A1 A2 A3 A4 A5 A6 A7 A8 A9 Ba Bb Bc Bd Be Bf Bg Bh Bi Bj Bk Bl Bm Bn Bo Bp Bq Br Bs Bt Bu Bv Bw Bx Bz B0 B1 B2 B3 B4 B5 B6 B7 B8 B9 Ca Cb Cc Cd Ce Cf Cg Ch Ci Cj Ck Cl Cm Cn Co Cp Cq Cr Cs Ct Cu Cv Cw Cx Cy Cz C0 C1 C2 C3 C4 C5 C6 C7 C8 C9 Da Db Dc Dd De Df Dg Dh Di Dj Dk Dl Dm Dn Dp Dq Dr Ds Dt Du Dv Dw Dx Dy Dz D0 D1 D2 D3 D4 D5 D6 D7 D8 Ja Jb Jc Jd Je Jf Jg Jh Ji D9 Ea Eb Ec Ed Ee Ef Eg Eh Ei Ej Ek El Em En Eo Jj Jk Jl Jm Jn Jo Jp Jq Jr Ep Er Es Et Eu Ev Ew Ex Ey Ez E0 E1 E2 E3 E4 E5 Js Jt Ju Jv Jw Jx Jy Jz J0 E6 E7 E8 E9 Fa Fb Fc Fd Fe Ff Fg Fh Fi Fj Fk Fl J1 J2 J3 J4 J5 J6 J7 J8 J9 Fm Fn Fo Fp Fq Fr Fs Ft Fu Fv Fw Fx Fy Fz F0 F1 Ka Kb Kc Kd Ke Kf Kg Kh Ki F2 F3 F4 F5 F6 F7 F8 F9 Ga Gb Gc Gd Ge Gf Gg Gh Kj Kk Kl Km Kn Ko Kp Kq Kr Gi Gj Gk Gl Gm Gn Gp Gq Gr Gs Gt Gu Gv Gw Gx Gy Ks Kt Ku Kv Kw Kx Ky Kz K0 Gz G0 G1 G2 G3 G4 G5 G6 G7 G8 G9 Ha Hb Hc Hd He K1 K2 K3 K4 K5 K6 K7 K8 K9 Hf Hg Hh Hi Hj Hk Hl Hm Hn Ho Hp Hq Hr Hs Ht Hu Hv Hw Hx Hy Hz H0 H1 H2 H3 H4 H5 H6 H7 H8 H9 Ia Ib Ic Ie Ig Ih Ii Ij Ik Il Im Io Ip Iq Ir Is It Iu Iv Iw Ix Iy Iz I0 I1 I2 I3 I4 I5 I6 I7 I8 I9 : Value} (a b c d h : BitVec 32) {w : World} {Q : Exit → Act → World → Prop}
    (hQ : ∀ (L9 Ma Mb Mc Md Me Mf Mg Mh : Value), Q .normal ⟨#[
 Aa,Ab,Ac,Ad,Ae,Af,Ag,Ah,.int .u32 (u (d + h)),Lf,Le,Ld,.int .u32 (u (h + (Sha.sum0 a + Sha.maj a b c))),(.int .u32 (u (a))),(.int .u32 (u (b))),(.int .u32 (u (c))),Ai,
 Aj,Ak,Al,Am,An,Ao,Ap,Aq,Ar,As,Au,Av,Aw,Ax,Ay,Az,A0,A1,A2,A3,A4,A5,A6,A7,A8,A9,Ba,Bb,Bc,Bd,Be,Bf,Bg,
 Bh,Bi,Bj,Bk,Bl,Bm,Bn,Bo,Bp,Bq,Br,Bs,Bt,Bu,Bv,Bw,Bx,Bz,B0,B1,B2,B3,B4,B5,B6,B7,B8,B9,Ca,Cb,Cc,Cd,Ce,
 Cf,Cg,Ch,Ci,Cj,Ck,Cl,Cm,Cn,Co,Cp,Cq,Cr,Cs,Ct,Cu,Cv,Cw,Cx,Cy,Cz,C0,C1,C2,C3,C4,C5,C6,C7,C8,C9,
 Da,Db,Dc,Dd,De,Df,Dg,Dh,Di,Dj,Dk,Dl,Dm,Dn,Dp,Dq,Dr,Ds,Dt,Du,Dv,Dw,Dx,Dy,Dz,D0,D1,D2,D3,
 D4,D5,D6,D7,D8,Ja,Jb,Jc,Jd,Je,Jf,Jg,Jh,Ji,D9,Ea,Eb,Ec,Ed,Ee,Ef,Eg,Eh,Ei,Ej,Ek,El,Em,En,
 Eo,Jj,Jk,Jl,Jm,Jn,Jo,Jp,Jq,Jr,Ep,Er,Es,Et,Eu,Ev,Ew,Ex,Ey,Ez,E0,E1,E2,E3,E4,E5,Js,Jt,Ju,
 Jv,Jw,Jx,Jy,Jz,J0,E6,E7,E8,E9,Fa,Fb,Fc,Fd,Fe,Ff,Fg,Fh,Fi,Fj,Fk,Fl,L9,Ma,Mb,Mc,Md,Me,Mf,
 Mg,Mh,Fm,Fn,Fo,Fp,Fq,Fr,Fs,Ft,Fu,Fv,Fw,Fx,Fy,Fz,F0,F1,Ka,Kb,Kc,Kd,Ke,Kf,Kg,Kh,Ki,F2,F3,
 F4,F5,F6,F7,F8,F9,Ga,Gb,Gc,Gd,Ge,Gf,Gg,Gh,Kj,Kk,Kl,Km,Kn,Ko,Kp,Kq,Kr,Gi,Gj,Gk,Gl,Gm,Gn,
 Gp,Gq,Gr,Gs,Gt,Gu,Gv,Gw,Gx,Gy,Ks,Kt,Ku,Kv,Kw,Kx,Ky,Kz,K0,Gz,G0,G1,G2,G3,G4,G5,G6,G7,G8,
 G9,Ha,Hb,Hc,Hd,He,K1,K2,K3,K4,K5,K6,K7,K8,K9,Hf,Hg,Hh,Hi,Hj,Hk,Hl,Hm,Hn,Ho,Hp,Hq,Hr,Hs,
 Ht,Hu,Hv,Hw,Hx,Hy,Hz,H0,H1,H2,H3,H4,H5,H6,H7,H8,H9,Ia,Ib,Ic,Ie,Ig,Ih,Ii,Ij,Ik,Il,Im,Io,
 Ip,Iq,Ir,Is,It,Iu,Iv,Iw,Ix,Iy,Iz,I0,I1,I2,I3,I4,I5,I6,I7,I8,I9],[]⟩ (w)) :
    Code.wp Try.prog (mixReg 23) Q ⟨#[
 Aa,Ab,Ac,Ad,Ae,Af,Ag,Ah,(.int .u32 (u (d))),Lf,Le,Ld,(.int .u32 (u (h))),(.int .u32 (u (a))),(.int .u32 (u (b))),(.int .u32 (u (c))),Ai,Aj,Ak,Al,Am,An,
 Ao,Ap,Aq,Ar,As,Au,Av,Aw,Ax,Ay,Az,A0,A1,A2,A3,A4,A5,A6,A7,A8,A9,Ba,Bb,Bc,Bd,Be,Bf,Bg,Bh,Bi,Bj,Bk,Bl,
 Bm,Bn,Bo,Bp,Bq,Br,Bs,Bt,Bu,Bv,Bw,Bx,Bz,B0,B1,B2,B3,B4,B5,B6,B7,B8,B9,Ca,Cb,Cc,Cd,Ce,Cf,Cg,Ch,Ci,Cj,
 Ck,Cl,Cm,Cn,Co,Cp,Cq,Cr,Cs,Ct,Cu,Cv,Cw,Cx,Cy,Cz,C0,C1,C2,C3,C4,C5,C6,C7,C8,C9,Da,Db,Dc,Dd,
 De,Df,Dg,Dh,Di,Dj,Dk,Dl,Dm,Dn,Dp,Dq,Dr,Ds,Dt,Du,Dv,Dw,Dx,Dy,Dz,D0,D1,D2,D3,D4,D5,D6,D7,
 D8,Ja,Jb,Jc,Jd,Je,Jf,Jg,Jh,Ji,D9,Ea,Eb,Ec,Ed,Ee,Ef,Eg,Eh,Ei,Ej,Ek,El,Em,En,Eo,Jj,Jk,Jl,
 Jm,Jn,Jo,Jp,Jq,Jr,Ep,Er,Es,Et,Eu,Ev,Ew,Ex,Ey,Ez,E0,E1,E2,E3,E4,E5,Js,Jt,Ju,Jv,Jw,Jx,Jy,
 Jz,J0,E6,E7,E8,E9,Fa,Fb,Fc,Fd,Fe,Ff,Fg,Fh,Fi,Fj,Fk,Fl,J1,J2,J3,J4,J5,J6,J7,J8,J9,Fm,Fn,
 Fo,Fp,Fq,Fr,Fs,Ft,Fu,Fv,Fw,Fx,Fy,Fz,F0,F1,Ka,Kb,Kc,Kd,Ke,Kf,Kg,Kh,Ki,F2,F3,F4,F5,F6,F7,
 F8,F9,Ga,Gb,Gc,Gd,Ge,Gf,Gg,Gh,Kj,Kk,Kl,Km,Kn,Ko,Kp,Kq,Kr,Gi,Gj,Gk,Gl,Gm,Gn,Gp,Gq,Gr,Gs,
 Gt,Gu,Gv,Gw,Gx,Gy,Ks,Kt,Ku,Kv,Kw,Kx,Ky,Kz,K0,Gz,G0,G1,G2,G3,G4,G5,G6,G7,G8,G9,Ha,Hb,Hc,
 Hd,He,K1,K2,K3,K4,K5,K6,K7,K8,K9,Hf,Hg,Hh,Hi,Hj,Hk,Hl,Hm,Hn,Ho,Hp,Hq,Hr,Hs,Ht,Hu,Hv,Hw,
 Hx,Hy,Hz,H0,H1,H2,H3,H4,H5,H6,H7,H8,H9,Ia,Ib,Ic,Ie,Ig,Ih,Ii,Ij,Ik,Il,Im,Io,Ip,Iq,Ir,Is,
 It,Iu,Iv,Iw,Ix,Iy,Iz,I0,I1,I2,I3,I4,I5,I6,I7,I8,I9],[]⟩ w := by
  conv => arg 2; whnf
  go_wp2_with (go_at_call 106; refine (upper_word _ _ _ _).mono ?_; rintro e w' ⟨rfl, hw'⟩; subst hw')
  exact hQ _ _ _ _ _ _ _ _ _

set_option maxRecDepth 100000 in
set_option maxHeartbeats 2000000 in
theorem mixUp4 {Aa Ab Ac Ad Ae Af Ag Ah Lg Lf Le Ai Aj Ak Al Am An Ao Ap Aq Ar As Au Av Aw Ax Ay Az A0 A1 A2 A3 A4 A5 A6 A7 A8 A9 Ba Bb Bc Bd Be Bf Bg Bh Bi Bj Bk Bl Bm Bn Bo Bp Bq Br Bs Bt Bu Bv Bw Bx Bz B0 B1 B2 B3 B4 B5 B6 B7 B8 B9 Ca Cb Cc Cd Ce Cf Cg Ch Ci Cj Ck Cl Cm Cn Co Cp Cq Cr Cs Ct Cu Cv Cw Cx Cy Cz C0 C1 C2 C3 C4 C5 C6 C7 C8 C9 Da Db Dc Dd De Df Dg Dh Di Dj Dk Dl Dm Dn Dp Dq Dr Ds Dt Du Dv Dw Dx Dy Dz D0 D1 D2 D3 D4 D5 D6 D7 D8 Ja Jb Jc Jd Je Jf Jg Jh Ji D9 Ea Eb Ec Ed Ee Ef Eg Eh Ei Ej Ek El Em En Eo Jj Jk Jl Jm Jn Jo Jp Jq Jr Ep Er Es Et Eu Ev Ew Ex Ey Ez E0 E1 E2 E3 E4 E5 Js Jt Ju Jv Jw Jx Jy Jz J0 E6 E7 E8 E9 Fa Fb Fc Fd Fe Ff Fg Fh Fi Fj Fk Fl J1 J2 J3 J4 J5 J6 J7 J8 J9 Fm Fn Fo Fp Fq Fr Fs Ft Fu Fv Fw Fx Fy Fz F0 F1 Ka Kb Kc Kd Ke Kf Kg Kh Ki F2 F3 F4 F5 F6 F7 F8 F9 Ga Gb Gc Gd Ge Gf Gg Gh Kj Kk Kl Km Kn Ko Kp Kq Kr Gi Gj Gk Gl Gm Gn Gp Gq Gr Gs Gt Gu Gv Gw Gx Gy Ks Kt Ku Kv Kw Kx Ky Kz K0 Gz G0 G1 G2 G3 G4 G5 G6 G7 G8 G9 Ha Hb Hc Hd He K1 K2 K3 K4 K5 K6 K7 K8 K9 Hf Hg Hh Hi Hj Hk Hl Hm Hn Ho Hp Hq Hr Hs Ht Hu Hv Hw Hx Hy Hz H0 H1 H2 H3 H4 H5 H6 H7 H8 H9 Ia Ib Ic Ie Ig Ih Ii Ij Ik Il Im Io Ip Iq Ir Is It Iu Iv Iw Ix Iy Iz I0 I1 I2 I3 I4 I5 I6 I7 I8 I9 : Value} (a b c d h : BitVec 32) {w : World} {Q : Exit → Act → World → Prop}
    (hQ : ∀ (Mi Mj Mk Ml Mm Mn Mo Mp Mq : Value), Q .normal ⟨#[
 Aa,Ab,Ac,Ad,Ae,Af,Ag,Ah,Lg,Lf,Le,.int .u32 (u (h + (Sha.sum0 a + Sha.maj a b c))),(.int .u32 (u (a))),(.int .u32 (u (b))),(.int .u32 (u (c))),.int .u32 (u (d + h)),Ai,
 Aj,Ak,Al,Am,An,Ao,Ap,Aq,Ar,As,Au,Av,Aw,Ax,Ay,Az,A0,A1,A2,A3,A4,A5,A6,A7,A8,A9,Ba,Bb,Bc,Bd,Be,Bf,Bg,
 Bh,Bi,Bj,Bk,Bl,Bm,Bn,Bo,Bp,Bq,Br,Bs,Bt,Bu,Bv,Bw,Bx,Bz,B0,B1,B2,B3,B4,B5,B6,B7,B8,B9,Ca,Cb,Cc,Cd,Ce,
 Cf,Cg,Ch,Ci,Cj,Ck,Cl,Cm,Cn,Co,Cp,Cq,Cr,Cs,Ct,Cu,Cv,Cw,Cx,Cy,Cz,C0,C1,C2,C3,C4,C5,C6,C7,C8,C9,
 Da,Db,Dc,Dd,De,Df,Dg,Dh,Di,Dj,Dk,Dl,Dm,Dn,Dp,Dq,Dr,Ds,Dt,Du,Dv,Dw,Dx,Dy,Dz,D0,D1,D2,D3,
 D4,D5,D6,D7,D8,Ja,Jb,Jc,Jd,Je,Jf,Jg,Jh,Ji,D9,Ea,Eb,Ec,Ed,Ee,Ef,Eg,Eh,Ei,Ej,Ek,El,Em,En,
 Eo,Jj,Jk,Jl,Jm,Jn,Jo,Jp,Jq,Jr,Ep,Er,Es,Et,Eu,Ev,Ew,Ex,Ey,Ez,E0,E1,E2,E3,E4,E5,Js,Jt,Ju,
 Jv,Jw,Jx,Jy,Jz,J0,E6,E7,E8,E9,Fa,Fb,Fc,Fd,Fe,Ff,Fg,Fh,Fi,Fj,Fk,Fl,J1,J2,J3,J4,J5,J6,J7,
 J8,J9,Fm,Fn,Fo,Fp,Fq,Fr,Fs,Ft,Fu,Fv,Fw,Fx,Fy,Fz,F0,F1,Mi,Mj,Mk,Ml,Mm,Mn,Mo,Mp,Mq,F2,F3,
 F4,F5,F6,F7,F8,F9,Ga,Gb,Gc,Gd,Ge,Gf,Gg,Gh,Kj,Kk,Kl,Km,Kn,Ko,Kp,Kq,Kr,Gi,Gj,Gk,Gl,Gm,Gn,
 Gp,Gq,Gr,Gs,Gt,Gu,Gv,Gw,Gx,Gy,Ks,Kt,Ku,Kv,Kw,Kx,Ky,Kz,K0,Gz,G0,G1,G2,G3,G4,G5,G6,G7,G8,
 G9,Ha,Hb,Hc,Hd,He,K1,K2,K3,K4,K5,K6,K7,K8,K9,Hf,Hg,Hh,Hi,Hj,Hk,Hl,Hm,Hn,Ho,Hp,Hq,Hr,Hs,
 Ht,Hu,Hv,Hw,Hx,Hy,Hz,H0,H1,H2,H3,H4,H5,H6,H7,H8,H9,Ia,Ib,Ic,Ie,Ig,Ih,Ii,Ij,Ik,Il,Im,Io,
 Ip,Iq,Ir,Is,It,Iu,Iv,Iw,Ix,Iy,Iz,I0,I1,I2,I3,I4,I5,I6,I7,I8,I9],[]⟩ (w)) :
    Code.wp Try.prog (mixReg 25) Q ⟨#[
 Aa,Ab,Ac,Ad,Ae,Af,Ag,Ah,Lg,Lf,Le,(.int .u32 (u (h))),(.int .u32 (u (a))),(.int .u32 (u (b))),(.int .u32 (u (c))),(.int .u32 (u (d))),Ai,Aj,Ak,Al,Am,An,
 Ao,Ap,Aq,Ar,As,Au,Av,Aw,Ax,Ay,Az,A0,A1,A2,A3,A4,A5,A6,A7,A8,A9,Ba,Bb,Bc,Bd,Be,Bf,Bg,Bh,Bi,Bj,Bk,Bl,
 Bm,Bn,Bo,Bp,Bq,Br,Bs,Bt,Bu,Bv,Bw,Bx,Bz,B0,B1,B2,B3,B4,B5,B6,B7,B8,B9,Ca,Cb,Cc,Cd,Ce,Cf,Cg,Ch,Ci,Cj,
 Ck,Cl,Cm,Cn,Co,Cp,Cq,Cr,Cs,Ct,Cu,Cv,Cw,Cx,Cy,Cz,C0,C1,C2,C3,C4,C5,C6,C7,C8,C9,Da,Db,Dc,Dd,
 De,Df,Dg,Dh,Di,Dj,Dk,Dl,Dm,Dn,Dp,Dq,Dr,Ds,Dt,Du,Dv,Dw,Dx,Dy,Dz,D0,D1,D2,D3,D4,D5,D6,D7,
 D8,Ja,Jb,Jc,Jd,Je,Jf,Jg,Jh,Ji,D9,Ea,Eb,Ec,Ed,Ee,Ef,Eg,Eh,Ei,Ej,Ek,El,Em,En,Eo,Jj,Jk,Jl,
 Jm,Jn,Jo,Jp,Jq,Jr,Ep,Er,Es,Et,Eu,Ev,Ew,Ex,Ey,Ez,E0,E1,E2,E3,E4,E5,Js,Jt,Ju,Jv,Jw,Jx,Jy,
 Jz,J0,E6,E7,E8,E9,Fa,Fb,Fc,Fd,Fe,Ff,Fg,Fh,Fi,Fj,Fk,Fl,J1,J2,J3,J4,J5,J6,J7,J8,J9,Fm,Fn,
 Fo,Fp,Fq,Fr,Fs,Ft,Fu,Fv,Fw,Fx,Fy,Fz,F0,F1,Ka,Kb,Kc,Kd,Ke,Kf,Kg,Kh,Ki,F2,F3,F4,F5,F6,F7,
 F8,F9,Ga,Gb,Gc,Gd,Ge,Gf,Gg,Gh,Kj,Kk,Kl,Km,Kn,Ko,Kp,Kq,Kr,Gi,Gj,Gk,Gl,Gm,Gn,Gp,Gq,Gr,Gs,
 Gt,Gu,Gv,Gw,Gx,Gy,Ks,Kt,Ku,Kv,Kw,Kx,Ky,Kz,K0,Gz,G0,G1,G2,G3,G4,G5,G6,G7,G8,G9,Ha,Hb,Hc,
 Hd,He,K1,K2,K3,K4,K5,K6,K7,K8,K9,Hf,Hg,Hh,Hi,Hj,Hk,Hl,Hm,Hn,Ho,Hp,Hq,Hr,Hs,Ht,Hu,Hv,Hw,
 Hx,Hy,Hz,H0,H1,H2,H3,H4,H5,H6,H7,H8,H9,Ia,Ib,Ic,Ie,Ig,Ih,Ii,Ij,Ik,Il,Im,Io,Ip,Iq,Ir,Is,
 It,Iu,Iv,Iw,Ix,Iy,Iz,I0,I1,I2,I3,I4,I5,I6,I7,I8,I9],[]⟩ w := by
  conv => arg 2; whnf
  go_wp2_with (go_at_call 106; refine (upper_word _ _ _ _).mono ?_; rintro e w' ⟨rfl, hw'⟩; subst hw')
  exact hQ _ _ _ _ _ _ _ _ _

set_option maxRecDepth 100000 in
set_option maxHeartbeats 2000000 in
theorem mixUp5 {Aa Ab Ac Ad Ae Af Ag Ah Lg Lf Lh Ai Aj Ak Al Am An Ao Ap Aq Ar As Au Av Aw Ax Ay Az A0 A1 A2 A3 A4 A5 A6 A7 A8 A9 Ba Bb Bc Bd Be Bf Bg Bh Bi Bj Bk Bl Bm Bn Bo Bp Bq Br Bs Bt Bu Bv Bw Bx Bz B0 B1 B2 B3 B4 B5 B6 B7 B8 B9 Ca Cb Cc Cd Ce Cf Cg Ch Ci Cj Ck Cl Cm Cn Co Cp Cq Cr Cs Ct Cu Cv Cw Cx Cy Cz C0 C1 C2 C3 C4 C5 C6 C7 C8 C9 Da Db Dc Dd De Df Dg Dh Di Dj Dk Dl Dm Dn Dp Dq Dr Ds Dt Du Dv Dw Dx Dy Dz D0 D1 D2 D3 D4 D5 D6 D7 D8 Ja Jb Jc Jd Je Jf Jg Jh Ji D9 Ea Eb Ec Ed Ee Ef Eg Eh Ei Ej Ek El Em En Eo Jj Jk Jl Jm Jn Jo Jp Jq Jr Ep Er Es Et Eu Ev Ew Ex Ey Ez E0 E1 E2 E3 E4 E5 Js Jt Ju Jv Jw Jx Jy Jz J0 E6 E7 E8 E9 Fa Fb Fc Fd Fe Ff Fg Fh Fi Fj Fk Fl J1 J2 J3 J4 J5 J6 J7 J8 J9 Fm Fn Fo Fp Fq Fr Fs Ft Fu Fv Fw Fx Fy Fz F0 F1 Ka Kb Kc Kd Ke Kf Kg Kh Ki F2 F3 F4 F5 F6 F7 F8 F9 Ga Gb Gc Gd Ge Gf Gg Gh Kj Kk Kl Km Kn Ko Kp Kq Kr Gi Gj Gk Gl Gm Gn Gp Gq Gr Gs Gt Gu Gv Gw Gx Gy Ks Kt Ku Kv Kw Kx Ky Kz K0 Gz G0 G1 G2 G3 G4 G5 G6 G7 G8 G9 Ha Hb Hc Hd He K1 K2 K3 K4 K5 K6 K7 K8 K9 Hf Hg Hh Hi Hj Hk Hl Hm Hn Ho Hp Hq Hr Hs Ht Hu Hv Hw Hx Hy Hz H0 H1 H2 H3 H4 H5 H6 H7 H8 H9 Ia Ib Ic Ie Ig Ih Ii Ij Ik Il Im Io Ip Iq Ir Is It Iu Iv Iw Ix Iy Iz I0 I1 I2 I3 I4 I5 I6 I7 I8 I9 : Value} (a b c d h : BitVec 32) {w : World} {Q : Exit → Act → World → Prop}
    (hQ : ∀ (Mr Ms Mt Mu Mv Mw Mx My Mz : Value), Q .normal ⟨#[
 Aa,Ab,Ac,Ad,Ae,Af,Ag,Ah,Lg,Lf,.int .u32 (u (h + (Sha.sum0 a + Sha.maj a b c))),(.int .u32 (u (a))),(.int .u32 (u (b))),(.int .u32 (u (c))),.int .u32 (u (d + h)),Lh,Ai,
 Aj,Ak,Al,Am,An,Ao,Ap,Aq,Ar,As,Au,Av,Aw,Ax,Ay,Az,A0,A1,A2,A3,A4,A5,A6,A7,A8,A9,Ba,Bb,Bc,Bd,Be,Bf,Bg,
 Bh,Bi,Bj,Bk,Bl,Bm,Bn,Bo,Bp,Bq,Br,Bs,Bt,Bu,Bv,Bw,Bx,Bz,B0,B1,B2,B3,B4,B5,B6,B7,B8,B9,Ca,Cb,Cc,Cd,Ce,
 Cf,Cg,Ch,Ci,Cj,Ck,Cl,Cm,Cn,Co,Cp,Cq,Cr,Cs,Ct,Cu,Cv,Cw,Cx,Cy,Cz,C0,C1,C2,C3,C4,C5,C6,C7,C8,C9,
 Da,Db,Dc,Dd,De,Df,Dg,Dh,Di,Dj,Dk,Dl,Dm,Dn,Dp,Dq,Dr,Ds,Dt,Du,Dv,Dw,Dx,Dy,Dz,D0,D1,D2,D3,
 D4,D5,D6,D7,D8,Ja,Jb,Jc,Jd,Je,Jf,Jg,Jh,Ji,D9,Ea,Eb,Ec,Ed,Ee,Ef,Eg,Eh,Ei,Ej,Ek,El,Em,En,
 Eo,Jj,Jk,Jl,Jm,Jn,Jo,Jp,Jq,Jr,Ep,Er,Es,Et,Eu,Ev,Ew,Ex,Ey,Ez,E0,E1,E2,E3,E4,E5,Js,Jt,Ju,
 Jv,Jw,Jx,Jy,Jz,J0,E6,E7,E8,E9,Fa,Fb,Fc,Fd,Fe,Ff,Fg,Fh,Fi,Fj,Fk,Fl,J1,J2,J3,J4,J5,J6,J7,
 J8,J9,Fm,Fn,Fo,Fp,Fq,Fr,Fs,Ft,Fu,Fv,Fw,Fx,Fy,Fz,F0,F1,Ka,Kb,Kc,Kd,Ke,Kf,Kg,Kh,Ki,F2,F3,
 F4,F5,F6,F7,F8,F9,Ga,Gb,Gc,Gd,Ge,Gf,Gg,Gh,Mr,Ms,Mt,Mu,Mv,Mw,Mx,My,Mz,Gi,Gj,Gk,Gl,Gm,Gn,
 Gp,Gq,Gr,Gs,Gt,Gu,Gv,Gw,Gx,Gy,Ks,Kt,Ku,Kv,Kw,Kx,Ky,Kz,K0,Gz,G0,G1,G2,G3,G4,G5,G6,G7,G8,
 G9,Ha,Hb,Hc,Hd,He,K1,K2,K3,K4,K5,K6,K7,K8,K9,Hf,Hg,Hh,Hi,Hj,Hk,Hl,Hm,Hn,Ho,Hp,Hq,Hr,Hs,
 Ht,Hu,Hv,Hw,Hx,Hy,Hz,H0,H1,H2,H3,H4,H5,H6,H7,H8,H9,Ia,Ib,Ic,Ie,Ig,Ih,Ii,Ij,Ik,Il,Im,Io,
 Ip,Iq,Ir,Is,It,Iu,Iv,Iw,Ix,Iy,Iz,I0,I1,I2,I3,I4,I5,I6,I7,I8,I9],[]⟩ (w)) :
    Code.wp Try.prog (mixReg 27) Q ⟨#[
 Aa,Ab,Ac,Ad,Ae,Af,Ag,Ah,Lg,Lf,(.int .u32 (u (h))),(.int .u32 (u (a))),(.int .u32 (u (b))),(.int .u32 (u (c))),(.int .u32 (u (d))),Lh,Ai,Aj,Ak,Al,Am,An,
 Ao,Ap,Aq,Ar,As,Au,Av,Aw,Ax,Ay,Az,A0,A1,A2,A3,A4,A5,A6,A7,A8,A9,Ba,Bb,Bc,Bd,Be,Bf,Bg,Bh,Bi,Bj,Bk,Bl,
 Bm,Bn,Bo,Bp,Bq,Br,Bs,Bt,Bu,Bv,Bw,Bx,Bz,B0,B1,B2,B3,B4,B5,B6,B7,B8,B9,Ca,Cb,Cc,Cd,Ce,Cf,Cg,Ch,Ci,Cj,
 Ck,Cl,Cm,Cn,Co,Cp,Cq,Cr,Cs,Ct,Cu,Cv,Cw,Cx,Cy,Cz,C0,C1,C2,C3,C4,C5,C6,C7,C8,C9,Da,Db,Dc,Dd,
 De,Df,Dg,Dh,Di,Dj,Dk,Dl,Dm,Dn,Dp,Dq,Dr,Ds,Dt,Du,Dv,Dw,Dx,Dy,Dz,D0,D1,D2,D3,D4,D5,D6,D7,
 D8,Ja,Jb,Jc,Jd,Je,Jf,Jg,Jh,Ji,D9,Ea,Eb,Ec,Ed,Ee,Ef,Eg,Eh,Ei,Ej,Ek,El,Em,En,Eo,Jj,Jk,Jl,
 Jm,Jn,Jo,Jp,Jq,Jr,Ep,Er,Es,Et,Eu,Ev,Ew,Ex,Ey,Ez,E0,E1,E2,E3,E4,E5,Js,Jt,Ju,Jv,Jw,Jx,Jy,
 Jz,J0,E6,E7,E8,E9,Fa,Fb,Fc,Fd,Fe,Ff,Fg,Fh,Fi,Fj,Fk,Fl,J1,J2,J3,J4,J5,J6,J7,J8,J9,Fm,Fn,
 Fo,Fp,Fq,Fr,Fs,Ft,Fu,Fv,Fw,Fx,Fy,Fz,F0,F1,Ka,Kb,Kc,Kd,Ke,Kf,Kg,Kh,Ki,F2,F3,F4,F5,F6,F7,
 F8,F9,Ga,Gb,Gc,Gd,Ge,Gf,Gg,Gh,Kj,Kk,Kl,Km,Kn,Ko,Kp,Kq,Kr,Gi,Gj,Gk,Gl,Gm,Gn,Gp,Gq,Gr,Gs,
 Gt,Gu,Gv,Gw,Gx,Gy,Ks,Kt,Ku,Kv,Kw,Kx,Ky,Kz,K0,Gz,G0,G1,G2,G3,G4,G5,G6,G7,G8,G9,Ha,Hb,Hc,
 Hd,He,K1,K2,K3,K4,K5,K6,K7,K8,K9,Hf,Hg,Hh,Hi,Hj,Hk,Hl,Hm,Hn,Ho,Hp,Hq,Hr,Hs,Ht,Hu,Hv,Hw,
 Hx,Hy,Hz,H0,H1,H2,H3,H4,H5,H6,H7,H8,H9,Ia,Ib,Ic,Ie,Ig,Ih,Ii,Ij,Ik,Il,Im,Io,Ip,Iq,Ir,Is,
 It,Iu,Iv,Iw,Ix,Iy,Iz,I0,I1,I2,I3,I4,I5,I6,I7,I8,I9],[]⟩ w := by
  conv => arg 2; whnf
  go_wp2_with (go_at_call 106; refine (upper_word _ _ _ _).mono ?_; rintro e w' ⟨rfl, hw'⟩; subst hw')
  exact hQ _ _ _ _ _ _ _ _ _

set_option maxRecDepth 100000 in
set_option maxHeartbeats 2000000 in
theorem mixUp6 {Aa Ab Ac Ad Ae Af Ag Ah Lg Lc Lh Ai Aj Ak Al Am An Ao Ap Aq Ar As Au Av Aw Ax Ay Az A0 A1 A2 A3 A4 A5 A6 A7 A8 A9 Ba Bb Bc Bd Be Bf Bg Bh Bi Bj Bk Bl Bm Bn Bo Bp Bq Br Bs Bt Bu Bv Bw Bx Bz B0 B1 B2 B3 B4 B5 B6 B7 B8 B9 Ca Cb Cc Cd Ce Cf Cg Ch Ci Cj Ck Cl Cm Cn Co Cp Cq Cr Cs Ct Cu Cv Cw Cx Cy Cz C0 C1 C2 C3 C4 C5 C6 C7 C8 C9 Da Db Dc Dd De Df Dg Dh Di Dj Dk Dl Dm Dn Dp Dq Dr Ds Dt Du Dv Dw Dx Dy Dz D0 D1 D2 D3 D4 D5 D6 D7 D8 Ja Jb Jc Jd Je Jf Jg Jh Ji D9 Ea Eb Ec Ed Ee Ef Eg Eh Ei Ej Ek El Em En Eo Jj Jk Jl Jm Jn Jo Jp Jq Jr Ep Er Es Et Eu Ev Ew Ex Ey Ez E0 E1 E2 E3 E4 E5 Js Jt Ju Jv Jw Jx Jy Jz J0 E6 E7 E8 E9 Fa Fb Fc Fd Fe Ff Fg Fh Fi Fj Fk Fl J1 J2 J3 J4 J5 J6 J7 J8 J9 Fm Fn Fo Fp Fq Fr Fs Ft Fu Fv Fw Fx Fy Fz F0 F1 Ka Kb Kc Kd Ke Kf Kg Kh Ki F2 F3 F4 F5 F6 F7 F8 F9 Ga Gb Gc Gd Ge Gf Gg Gh Kj Kk Kl Km Kn Ko Kp Kq Kr Gi Gj Gk Gl Gm Gn Gp Gq Gr Gs Gt Gu Gv Gw Gx Gy Ks Kt Ku Kv Kw Kx Ky Kz K0 Gz G0 G1 G2 G3 G4 G5 G6 G7 G8 G9 Ha Hb Hc Hd He K1 K2 K3 K4 K5 K6 K7 K8 K9 Hf Hg Hh Hi Hj Hk Hl Hm Hn Ho Hp Hq Hr Hs Ht Hu Hv Hw Hx Hy Hz H0 H1 H2 H3 H4 H5 H6 H7 H8 H9 Ia Ib Ic Ie Ig Ih Ii Ij Ik Il Im Io Ip Iq Ir Is It Iu Iv Iw Ix Iy Iz I0 I1 I2 I3 I4 I5 I6 I7 I8 I9 : Value} (a b c d h : BitVec 32) {w : World} {Q : Exit → Act → World → Prop}
    (hQ : ∀ (M0 M1 M2 M3 M4 M5 M6 M7 M8 : Value), Q .normal ⟨#[
 Aa,Ab,Ac,Ad,Ae,Af,Ag,Ah,Lg,.int .u32 (u (h + (Sha.sum0 a + Sha.maj a b c))),(.int .u32 (u (a))),(.int .u32 (u (b))),(.int .u32 (u (c))),.int .u32 (u (d + h)),Lc,Lh,Ai,
 Aj,Ak,Al,Am,An,Ao,Ap,Aq,Ar,As,Au,Av,Aw,Ax,Ay,Az,A0,A1,A2,A3,A4,A5,A6,A7,A8,A9,Ba,Bb,Bc,Bd,Be,Bf,Bg,
 Bh,Bi,Bj,Bk,Bl,Bm,Bn,Bo,Bp,Bq,Br,Bs,Bt,Bu,Bv,Bw,Bx,Bz,B0,B1,B2,B3,B4,B5,B6,B7,B8,B9,Ca,Cb,Cc,Cd,Ce,
 Cf,Cg,Ch,Ci,Cj,Ck,Cl,Cm,Cn,Co,Cp,Cq,Cr,Cs,Ct,Cu,Cv,Cw,Cx,Cy,Cz,C0,C1,C2,C3,C4,C5,C6,C7,C8,C9,
 Da,Db,Dc,Dd,De,Df,Dg,Dh,Di,Dj,Dk,Dl,Dm,Dn,Dp,Dq,Dr,Ds,Dt,Du,Dv,Dw,Dx,Dy,Dz,D0,D1,D2,D3,
 D4,D5,D6,D7,D8,Ja,Jb,Jc,Jd,Je,Jf,Jg,Jh,Ji,D9,Ea,Eb,Ec,Ed,Ee,Ef,Eg,Eh,Ei,Ej,Ek,El,Em,En,
 Eo,Jj,Jk,Jl,Jm,Jn,Jo,Jp,Jq,Jr,Ep,Er,Es,Et,Eu,Ev,Ew,Ex,Ey,Ez,E0,E1,E2,E3,E4,E5,Js,Jt,Ju,
 Jv,Jw,Jx,Jy,Jz,J0,E6,E7,E8,E9,Fa,Fb,Fc,Fd,Fe,Ff,Fg,Fh,Fi,Fj,Fk,Fl,J1,J2,J3,J4,J5,J6,J7,
 J8,J9,Fm,Fn,Fo,Fp,Fq,Fr,Fs,Ft,Fu,Fv,Fw,Fx,Fy,Fz,F0,F1,Ka,Kb,Kc,Kd,Ke,Kf,Kg,Kh,Ki,F2,F3,
 F4,F5,F6,F7,F8,F9,Ga,Gb,Gc,Gd,Ge,Gf,Gg,Gh,Kj,Kk,Kl,Km,Kn,Ko,Kp,Kq,Kr,Gi,Gj,Gk,Gl,Gm,Gn,
 Gp,Gq,Gr,Gs,Gt,Gu,Gv,Gw,Gx,Gy,M0,M1,M2,M3,M4,M5,M6,M7,M8,Gz,G0,G1,G2,G3,G4,G5,G6,G7,G8,
 G9,Ha,Hb,Hc,Hd,He,K1,K2,K3,K4,K5,K6,K7,K8,K9,Hf,Hg,Hh,Hi,Hj,Hk,Hl,Hm,Hn,Ho,Hp,Hq,Hr,Hs,
 Ht,Hu,Hv,Hw,Hx,Hy,Hz,H0,H1,H2,H3,H4,H5,H6,H7,H8,H9,Ia,Ib,Ic,Ie,Ig,Ih,Ii,Ij,Ik,Il,Im,Io,
 Ip,Iq,Ir,Is,It,Iu,Iv,Iw,Ix,Iy,Iz,I0,I1,I2,I3,I4,I5,I6,I7,I8,I9],[]⟩ (w)) :
    Code.wp Try.prog (mixReg 29) Q ⟨#[
 Aa,Ab,Ac,Ad,Ae,Af,Ag,Ah,Lg,(.int .u32 (u (h))),(.int .u32 (u (a))),(.int .u32 (u (b))),(.int .u32 (u (c))),(.int .u32 (u (d))),Lc,Lh,Ai,Aj,Ak,Al,Am,An,
 Ao,Ap,Aq,Ar,As,Au,Av,Aw,Ax,Ay,Az,A0,A1,A2,A3,A4,A5,A6,A7,A8,A9,Ba,Bb,Bc,Bd,Be,Bf,Bg,Bh,Bi,Bj,Bk,Bl,
 Bm,Bn,Bo,Bp,Bq,Br,Bs,Bt,Bu,Bv,Bw,Bx,Bz,B0,B1,B2,B3,B4,B5,B6,B7,B8,B9,Ca,Cb,Cc,Cd,Ce,Cf,Cg,Ch,Ci,Cj,
 Ck,Cl,Cm,Cn,Co,Cp,Cq,Cr,Cs,Ct,Cu,Cv,Cw,Cx,Cy,Cz,C0,C1,C2,C3,C4,C5,C6,C7,C8,C9,Da,Db,Dc,Dd,
 De,Df,Dg,Dh,Di,Dj,Dk,Dl,Dm,Dn,Dp,Dq,Dr,Ds,Dt,Du,Dv,Dw,Dx,Dy,Dz,D0,D1,D2,D3,D4,D5,D6,D7,
 D8,Ja,Jb,Jc,Jd,Je,Jf,Jg,Jh,Ji,D9,Ea,Eb,Ec,Ed,Ee,Ef,Eg,Eh,Ei,Ej,Ek,El,Em,En,Eo,Jj,Jk,Jl,
 Jm,Jn,Jo,Jp,Jq,Jr,Ep,Er,Es,Et,Eu,Ev,Ew,Ex,Ey,Ez,E0,E1,E2,E3,E4,E5,Js,Jt,Ju,Jv,Jw,Jx,Jy,
 Jz,J0,E6,E7,E8,E9,Fa,Fb,Fc,Fd,Fe,Ff,Fg,Fh,Fi,Fj,Fk,Fl,J1,J2,J3,J4,J5,J6,J7,J8,J9,Fm,Fn,
 Fo,Fp,Fq,Fr,Fs,Ft,Fu,Fv,Fw,Fx,Fy,Fz,F0,F1,Ka,Kb,Kc,Kd,Ke,Kf,Kg,Kh,Ki,F2,F3,F4,F5,F6,F7,
 F8,F9,Ga,Gb,Gc,Gd,Ge,Gf,Gg,Gh,Kj,Kk,Kl,Km,Kn,Ko,Kp,Kq,Kr,Gi,Gj,Gk,Gl,Gm,Gn,Gp,Gq,Gr,Gs,
 Gt,Gu,Gv,Gw,Gx,Gy,Ks,Kt,Ku,Kv,Kw,Kx,Ky,Kz,K0,Gz,G0,G1,G2,G3,G4,G5,G6,G7,G8,G9,Ha,Hb,Hc,
 Hd,He,K1,K2,K3,K4,K5,K6,K7,K8,K9,Hf,Hg,Hh,Hi,Hj,Hk,Hl,Hm,Hn,Ho,Hp,Hq,Hr,Hs,Ht,Hu,Hv,Hw,
 Hx,Hy,Hz,H0,H1,H2,H3,H4,H5,H6,H7,H8,H9,Ia,Ib,Ic,Ie,Ig,Ih,Ii,Ij,Ik,Il,Im,Io,Ip,Iq,Ir,Is,
 It,Iu,Iv,Iw,Ix,Iy,Iz,I0,I1,I2,I3,I4,I5,I6,I7,I8,I9],[]⟩ w := by
  conv => arg 2; whnf
  go_wp2_with (go_at_call 106; refine (upper_word _ _ _ _).mono ?_; rintro e w' ⟨rfl, hw'⟩; subst hw')
  exact hQ _ _ _ _ _ _ _ _ _

set_option maxRecDepth 100000 in
set_option maxHeartbeats 2000000 in
theorem mixUp7 {Aa Ab Ac Ad Ae Af Ag Ah Lb Lc Lh Ai Aj Ak Al Am An Ao Ap Aq Ar As Au Av Aw Ax Ay Az A0 A1 A2 A3 A4 A5 A6 A7 A8 A9 Ba Bb Bc Bd Be Bf Bg Bh Bi Bj Bk Bl Bm Bn Bo Bp Bq Br Bs Bt Bu Bv Bw Bx Bz B0 B1 B2 B3 B4 B5 B6 B7 B8 B9 Ca Cb Cc Cd Ce Cf Cg Ch Ci Cj Ck Cl Cm Cn Co Cp Cq Cr Cs Ct Cu Cv Cw Cx Cy Cz C0 C1 C2 C3 C4 C5 C6 C7 C8 C9 Da Db Dc Dd De Df Dg Dh Di Dj Dk Dl Dm Dn Dp Dq Dr Ds Dt Du Dv Dw Dx Dy Dz D0 D1 D2 D3 D4 D5 D6 D7 D8 Ja Jb Jc Jd Je Jf Jg Jh Ji D9 Ea Eb Ec Ed Ee Ef Eg Eh Ei Ej Ek El Em En Eo Jj Jk Jl Jm Jn Jo Jp Jq Jr Ep Er Es Et Eu Ev Ew Ex Ey Ez E0 E1 E2 E3 E4 E5 Js Jt Ju Jv Jw Jx Jy Jz J0 E6 E7 E8 E9 Fa Fb Fc Fd Fe Ff Fg Fh Fi Fj Fk Fl J1 J2 J3 J4 J5 J6 J7 J8 J9 Fm Fn Fo Fp Fq Fr Fs Ft Fu Fv Fw Fx Fy Fz F0 F1 Ka Kb Kc Kd Ke Kf Kg Kh Ki F2 F3 F4 F5 F6 F7 F8 F9 Ga Gb Gc Gd Ge Gf Gg Gh Kj Kk Kl Km Kn Ko Kp Kq Kr Gi Gj Gk Gl Gm Gn Gp Gq Gr Gs Gt Gu Gv Gw Gx Gy Ks Kt Ku Kv Kw Kx Ky Kz K0 Gz G0 G1 G2 G3 G4 G5 G6 G7 G8 G9 Ha Hb Hc Hd He K1 K2 K3 K4 K5 K6 K7 K8 K9 Hf Hg Hh Hi Hj Hk Hl Hm Hn Ho Hp Hq Hr Hs Ht Hu Hv Hw Hx Hy Hz H0 H1 H2 H3 H4 H5 H6 H7 H8 H9 Ia Ib Ic Ie Ig Ih Ii Ij Ik Il Im Io Ip Iq Ir Is It Iu Iv Iw Ix Iy Iz I0 I1 I2 I3 I4 I5 I6 I7 I8 I9 : Value} (a b c d h : BitVec 32) {w : World} {Q : Exit → Act → World → Prop}
    (hQ : ∀ (M9 Na Nb Nc Nd Nf Ng Nh Ni : Value), Q .normal ⟨#[
 Aa,Ab,Ac,Ad,Ae,Af,Ag,Ah,.int .u32 (u (h + (Sha.sum0 a + Sha.maj a b c))),(.int .u32 (u (a))),(.int .u32 (u (b))),(.int .u32 (u (c))),.int .u32 (u (d + h)),Lb,Lc,Lh,Ai,
 Aj,Ak,Al,Am,An,Ao,Ap,Aq,Ar,As,Au,Av,Aw,Ax,Ay,Az,A0,A1,A2,A3,A4,A5,A6,A7,A8,A9,Ba,Bb,Bc,Bd,Be,Bf,Bg,
 Bh,Bi,Bj,Bk,Bl,Bm,Bn,Bo,Bp,Bq,Br,Bs,Bt,Bu,Bv,Bw,Bx,Bz,B0,B1,B2,B3,B4,B5,B6,B7,B8,B9,Ca,Cb,Cc,Cd,Ce,
 Cf,Cg,Ch,Ci,Cj,Ck,Cl,Cm,Cn,Co,Cp,Cq,Cr,Cs,Ct,Cu,Cv,Cw,Cx,Cy,Cz,C0,C1,C2,C3,C4,C5,C6,C7,C8,C9,
 Da,Db,Dc,Dd,De,Df,Dg,Dh,Di,Dj,Dk,Dl,Dm,Dn,Dp,Dq,Dr,Ds,Dt,Du,Dv,Dw,Dx,Dy,Dz,D0,D1,D2,D3,
 D4,D5,D6,D7,D8,Ja,Jb,Jc,Jd,Je,Jf,Jg,Jh,Ji,D9,Ea,Eb,Ec,Ed,Ee,Ef,Eg,Eh,Ei,Ej,Ek,El,Em,En,
 Eo,Jj,Jk,Jl,Jm,Jn,Jo,Jp,Jq,Jr,Ep,Er,Es,Et,Eu,Ev,Ew,Ex,Ey,Ez,E0,E1,E2,E3,E4,E5,Js,Jt,Ju,
 Jv,Jw,Jx,Jy,Jz,J0,E6,E7,E8,E9,Fa,Fb,Fc,Fd,Fe,Ff,Fg,Fh,Fi,Fj,Fk,Fl,J1,J2,J3,J4,J5,J6,J7,
 J8,J9,Fm,Fn,Fo,Fp,Fq,Fr,Fs,Ft,Fu,Fv,Fw,Fx,Fy,Fz,F0,F1,Ka,Kb,Kc,Kd,Ke,Kf,Kg,Kh,Ki,F2,F3,
 F4,F5,F6,F7,F8,F9,Ga,Gb,Gc,Gd,Ge,Gf,Gg,Gh,Kj,Kk,Kl,Km,Kn,Ko,Kp,Kq,Kr,Gi,Gj,Gk,Gl,Gm,Gn,
 Gp,Gq,Gr,Gs,Gt,Gu,Gv,Gw,Gx,Gy,Ks,Kt,Ku,Kv,Kw,Kx,Ky,Kz,K0,Gz,G0,G1,G2,G3,G4,G5,G6,G7,G8,
 G9,Ha,Hb,Hc,Hd,He,M9,Na,Nb,Nc,Nd,Nf,Ng,Nh,Ni,Hf,Hg,Hh,Hi,Hj,Hk,Hl,Hm,Hn,Ho,Hp,Hq,Hr,Hs,
 Ht,Hu,Hv,Hw,Hx,Hy,Hz,H0,H1,H2,H3,H4,H5,H6,H7,H8,H9,Ia,Ib,Ic,Ie,Ig,Ih,Ii,Ij,Ik,Il,Im,Io,
 Ip,Iq,Ir,Is,It,Iu,Iv,Iw,Ix,Iy,Iz,I0,I1,I2,I3,I4,I5,I6,I7,I8,I9],[]⟩ (w)) :
    Code.wp Try.prog (mixReg 31) Q ⟨#[
 Aa,Ab,Ac,Ad,Ae,Af,Ag,Ah,(.int .u32 (u (h))),(.int .u32 (u (a))),(.int .u32 (u (b))),(.int .u32 (u (c))),(.int .u32 (u (d))),Lb,Lc,Lh,Ai,Aj,Ak,Al,Am,An,
 Ao,Ap,Aq,Ar,As,Au,Av,Aw,Ax,Ay,Az,A0,A1,A2,A3,A4,A5,A6,A7,A8,A9,Ba,Bb,Bc,Bd,Be,Bf,Bg,Bh,Bi,Bj,Bk,Bl,
 Bm,Bn,Bo,Bp,Bq,Br,Bs,Bt,Bu,Bv,Bw,Bx,Bz,B0,B1,B2,B3,B4,B5,B6,B7,B8,B9,Ca,Cb,Cc,Cd,Ce,Cf,Cg,Ch,Ci,Cj,
 Ck,Cl,Cm,Cn,Co,Cp,Cq,Cr,Cs,Ct,Cu,Cv,Cw,Cx,Cy,Cz,C0,C1,C2,C3,C4,C5,C6,C7,C8,C9,Da,Db,Dc,Dd,
 De,Df,Dg,Dh,Di,Dj,Dk,Dl,Dm,Dn,Dp,Dq,Dr,Ds,Dt,Du,Dv,Dw,Dx,Dy,Dz,D0,D1,D2,D3,D4,D5,D6,D7,
 D8,Ja,Jb,Jc,Jd,Je,Jf,Jg,Jh,Ji,D9,Ea,Eb,Ec,Ed,Ee,Ef,Eg,Eh,Ei,Ej,Ek,El,Em,En,Eo,Jj,Jk,Jl,
 Jm,Jn,Jo,Jp,Jq,Jr,Ep,Er,Es,Et,Eu,Ev,Ew,Ex,Ey,Ez,E0,E1,E2,E3,E4,E5,Js,Jt,Ju,Jv,Jw,Jx,Jy,
 Jz,J0,E6,E7,E8,E9,Fa,Fb,Fc,Fd,Fe,Ff,Fg,Fh,Fi,Fj,Fk,Fl,J1,J2,J3,J4,J5,J6,J7,J8,J9,Fm,Fn,
 Fo,Fp,Fq,Fr,Fs,Ft,Fu,Fv,Fw,Fx,Fy,Fz,F0,F1,Ka,Kb,Kc,Kd,Ke,Kf,Kg,Kh,Ki,F2,F3,F4,F5,F6,F7,
 F8,F9,Ga,Gb,Gc,Gd,Ge,Gf,Gg,Gh,Kj,Kk,Kl,Km,Kn,Ko,Kp,Kq,Kr,Gi,Gj,Gk,Gl,Gm,Gn,Gp,Gq,Gr,Gs,
 Gt,Gu,Gv,Gw,Gx,Gy,Ks,Kt,Ku,Kv,Kw,Kx,Ky,Kz,K0,Gz,G0,G1,G2,G3,G4,G5,G6,G7,G8,G9,Ha,Hb,Hc,
 Hd,He,K1,K2,K3,K4,K5,K6,K7,K8,K9,Hf,Hg,Hh,Hi,Hj,Hk,Hl,Hm,Hn,Ho,Hp,Hq,Hr,Hs,Ht,Hu,Hv,Hw,
 Hx,Hy,Hz,H0,H1,H2,H3,H4,H5,H6,H7,H8,H9,Ia,Ib,Ic,Ie,Ig,Ih,Ii,Ij,Ik,Il,Im,Io,Ip,Iq,Ir,Is,
 It,Iu,Iv,Iw,Ix,Iy,Iz,I0,I1,I2,I3,I4,I5,I6,I7,I8,I9],[]⟩ w := by
  conv => arg 2; whnf
  go_wp2_with (go_at_call 106; refine (upper_word _ _ _ _).mono ?_; rintro e w' ⟨rfl, hw'⟩; subst hw')
  exact hQ _ _ _ _ _ _ _ _ _

set_option maxRecDepth 100000 in
theorem mixUp0A {T : Array Value} {l0 l1 l4 l5 l6 l7 l12 l13 l14 l16 l17 l18 l20 : Value} (a b c d h : BitVec 32) {w : World} {Q : Exit → Act → World → Prop} (hL : mixLive T l0 l1 l4 l5 l6 l7 (.int .u32 (u (a))) (.int .u32 (u (b))) (.int .u32 (u (c))) (.int .u32 (u (d))) l12 l13 l14 (.int .u32 (u (h))) l16 l17 l18 l20)
    (hQ : ∀ (T' : Array Value), mixLive T' l0 l1 l4 l5 l6 l7 (.int .u32 (u (a))) (.int .u32 (u (b))) (.int .u32 (u (c))) (.int .u32 (u (d + h))) l12 l13 l14 (.int .u32 (u (h + (Sha.sum0 a + Sha.maj a b c)))) l16 l17 l18 l20 → Q .normal ⟨T', []⟩ (w)) : Code.wp Try.prog (mixReg 17) Q ⟨T, []⟩ w := by
  rw [mixOut T hL.size]
  rw [hL.s0, hL.s1, hL.s4, hL.s5, hL.s6, hL.s7, hL.s8, hL.s9, hL.s10, hL.s11, hL.s12, hL.s13, hL.s14, hL.s15, hL.s16, hL.s17, hL.s18, hL.s20]
  refine mixUp0 a b c d h ?_
  intros
  exact hQ _ ⟨rfl, rfl, rfl, rfl, rfl, rfl, rfl, rfl, rfl, rfl, rfl, rfl, rfl, rfl, rfl, rfl, rfl, rfl, rfl⟩

set_option maxRecDepth 100000 in
theorem mixUp1A {T : Array Value} {l0 l1 l4 l5 l6 l7 l11 l12 l13 l16 l17 l18 l20 : Value} (a b c d h : BitVec 32) {w : World} {Q : Exit → Act → World → Prop} (hL : mixLive T l0 l1 l4 l5 l6 l7 (.int .u32 (u (b))) (.int .u32 (u (c))) (.int .u32 (u (d))) l11 l12 l13 (.int .u32 (u (h))) (.int .u32 (u (a))) l16 l17 l18 l20)
    (hQ : ∀ (T' : Array Value), mixLive T' l0 l1 l4 l5 l6 l7 (.int .u32 (u (b))) (.int .u32 (u (c))) (.int .u32 (u (d + h))) l11 l12 l13 (.int .u32 (u (h + (Sha.sum0 a + Sha.maj a b c)))) (.int .u32 (u (a))) l16 l17 l18 l20 → Q .normal ⟨T', []⟩ (w)) : Code.wp Try.prog (mixReg 19) Q ⟨T, []⟩ w := by
  rw [mixOut T hL.size]
  rw [hL.s0, hL.s1, hL.s4, hL.s5, hL.s6, hL.s7, hL.s8, hL.s9, hL.s10, hL.s11, hL.s12, hL.s13, hL.s14, hL.s15, hL.s16, hL.s17, hL.s18, hL.s20]
  refine mixUp1 a b c d h ?_
  intros
  exact hQ _ ⟨rfl, rfl, rfl, rfl, rfl, rfl, rfl, rfl, rfl, rfl, rfl, rfl, rfl, rfl, rfl, rfl, rfl, rfl, rfl⟩

set_option maxRecDepth 100000 in
theorem mixUp2A {T : Array Value} {l0 l1 l4 l5 l6 l7 l10 l11 l12 l16 l17 l18 l20 : Value} (a b c d h : BitVec 32) {w : World} {Q : Exit → Act → World → Prop} (hL : mixLive T l0 l1 l4 l5 l6 l7 (.int .u32 (u (c))) (.int .u32 (u (d))) l10 l11 l12 (.int .u32 (u (h))) (.int .u32 (u (a))) (.int .u32 (u (b))) l16 l17 l18 l20)
    (hQ : ∀ (T' : Array Value), mixLive T' l0 l1 l4 l5 l6 l7 (.int .u32 (u (c))) (.int .u32 (u (d + h))) l10 l11 l12 (.int .u32 (u (h + (Sha.sum0 a + Sha.maj a b c)))) (.int .u32 (u (a))) (.int .u32 (u (b))) l16 l17 l18 l20 → Q .normal ⟨T', []⟩ (w)) : Code.wp Try.prog (mixReg 21) Q ⟨T, []⟩ w := by
  rw [mixOut T hL.size]
  rw [hL.s0, hL.s1, hL.s4, hL.s5, hL.s6, hL.s7, hL.s8, hL.s9, hL.s10, hL.s11, hL.s12, hL.s13, hL.s14, hL.s15, hL.s16, hL.s17, hL.s18, hL.s20]
  refine mixUp2 a b c d h ?_
  intros
  exact hQ _ ⟨rfl, rfl, rfl, rfl, rfl, rfl, rfl, rfl, rfl, rfl, rfl, rfl, rfl, rfl, rfl, rfl, rfl, rfl, rfl⟩

set_option maxRecDepth 100000 in
theorem mixUp3A {T : Array Value} {l0 l1 l4 l5 l6 l7 l9 l10 l11 l16 l17 l18 l20 : Value} (a b c d h : BitVec 32) {w : World} {Q : Exit → Act → World → Prop} (hL : mixLive T l0 l1 l4 l5 l6 l7 (.int .u32 (u (d))) l9 l10 l11 (.int .u32 (u (h))) (.int .u32 (u (a))) (.int .u32 (u (b))) (.int .u32 (u (c))) l16 l17 l18 l20)
    (hQ : ∀ (T' : Array Value), mixLive T' l0 l1 l4 l5 l6 l7 (.int .u32 (u (d + h))) l9 l10 l11 (.int .u32 (u (h + (Sha.sum0 a + Sha.maj a b c)))) (.int .u32 (u (a))) (.int .u32 (u (b))) (.int .u32 (u (c))) l16 l17 l18 l20 → Q .normal ⟨T', []⟩ (w)) : Code.wp Try.prog (mixReg 23) Q ⟨T, []⟩ w := by
  rw [mixOut T hL.size]
  rw [hL.s0, hL.s1, hL.s4, hL.s5, hL.s6, hL.s7, hL.s8, hL.s9, hL.s10, hL.s11, hL.s12, hL.s13, hL.s14, hL.s15, hL.s16, hL.s17, hL.s18, hL.s20]
  refine mixUp3 a b c d h ?_
  intros
  exact hQ _ ⟨rfl, rfl, rfl, rfl, rfl, rfl, rfl, rfl, rfl, rfl, rfl, rfl, rfl, rfl, rfl, rfl, rfl, rfl, rfl⟩

set_option maxRecDepth 100000 in
theorem mixUp4A {T : Array Value} {l0 l1 l4 l5 l6 l7 l8 l9 l10 l16 l17 l18 l20 : Value} (a b c d h : BitVec 32) {w : World} {Q : Exit → Act → World → Prop} (hL : mixLive T l0 l1 l4 l5 l6 l7 l8 l9 l10 (.int .u32 (u (h))) (.int .u32 (u (a))) (.int .u32 (u (b))) (.int .u32 (u (c))) (.int .u32 (u (d))) l16 l17 l18 l20)
    (hQ : ∀ (T' : Array Value), mixLive T' l0 l1 l4 l5 l6 l7 l8 l9 l10 (.int .u32 (u (h + (Sha.sum0 a + Sha.maj a b c)))) (.int .u32 (u (a))) (.int .u32 (u (b))) (.int .u32 (u (c))) (.int .u32 (u (d + h))) l16 l17 l18 l20 → Q .normal ⟨T', []⟩ (w)) : Code.wp Try.prog (mixReg 25) Q ⟨T, []⟩ w := by
  rw [mixOut T hL.size]
  rw [hL.s0, hL.s1, hL.s4, hL.s5, hL.s6, hL.s7, hL.s8, hL.s9, hL.s10, hL.s11, hL.s12, hL.s13, hL.s14, hL.s15, hL.s16, hL.s17, hL.s18, hL.s20]
  refine mixUp4 a b c d h ?_
  intros
  exact hQ _ ⟨rfl, rfl, rfl, rfl, rfl, rfl, rfl, rfl, rfl, rfl, rfl, rfl, rfl, rfl, rfl, rfl, rfl, rfl, rfl⟩

set_option maxRecDepth 100000 in
theorem mixUp5A {T : Array Value} {l0 l1 l4 l5 l6 l7 l8 l9 l15 l16 l17 l18 l20 : Value} (a b c d h : BitVec 32) {w : World} {Q : Exit → Act → World → Prop} (hL : mixLive T l0 l1 l4 l5 l6 l7 l8 l9 (.int .u32 (u (h))) (.int .u32 (u (a))) (.int .u32 (u (b))) (.int .u32 (u (c))) (.int .u32 (u (d))) l15 l16 l17 l18 l20)
    (hQ : ∀ (T' : Array Value), mixLive T' l0 l1 l4 l5 l6 l7 l8 l9 (.int .u32 (u (h + (Sha.sum0 a + Sha.maj a b c)))) (.int .u32 (u (a))) (.int .u32 (u (b))) (.int .u32 (u (c))) (.int .u32 (u (d + h))) l15 l16 l17 l18 l20 → Q .normal ⟨T', []⟩ (w)) : Code.wp Try.prog (mixReg 27) Q ⟨T, []⟩ w := by
  rw [mixOut T hL.size]
  rw [hL.s0, hL.s1, hL.s4, hL.s5, hL.s6, hL.s7, hL.s8, hL.s9, hL.s10, hL.s11, hL.s12, hL.s13, hL.s14, hL.s15, hL.s16, hL.s17, hL.s18, hL.s20]
  refine mixUp5 a b c d h ?_
  intros
  exact hQ _ ⟨rfl, rfl, rfl, rfl, rfl, rfl, rfl, rfl, rfl, rfl, rfl, rfl, rfl, rfl, rfl, rfl, rfl, rfl, rfl⟩

set_option maxRecDepth 100000 in
theorem mixUp6A {T : Array Value} {l0 l1 l4 l5 l6 l7 l8 l14 l15 l16 l17 l18 l20 : Value} (a b c d h : BitVec 32) {w : World} {Q : Exit → Act → World → Prop} (hL : mixLive T l0 l1 l4 l5 l6 l7 l8 (.int .u32 (u (h))) (.int .u32 (u (a))) (.int .u32 (u (b))) (.int .u32 (u (c))) (.int .u32 (u (d))) l14 l15 l16 l17 l18 l20)
    (hQ : ∀ (T' : Array Value), mixLive T' l0 l1 l4 l5 l6 l7 l8 (.int .u32 (u (h + (Sha.sum0 a + Sha.maj a b c)))) (.int .u32 (u (a))) (.int .u32 (u (b))) (.int .u32 (u (c))) (.int .u32 (u (d + h))) l14 l15 l16 l17 l18 l20 → Q .normal ⟨T', []⟩ (w)) : Code.wp Try.prog (mixReg 29) Q ⟨T, []⟩ w := by
  rw [mixOut T hL.size]
  rw [hL.s0, hL.s1, hL.s4, hL.s5, hL.s6, hL.s7, hL.s8, hL.s9, hL.s10, hL.s11, hL.s12, hL.s13, hL.s14, hL.s15, hL.s16, hL.s17, hL.s18, hL.s20]
  refine mixUp6 a b c d h ?_
  intros
  exact hQ _ ⟨rfl, rfl, rfl, rfl, rfl, rfl, rfl, rfl, rfl, rfl, rfl, rfl, rfl, rfl, rfl, rfl, rfl, rfl, rfl⟩

set_option maxRecDepth 100000 in
theorem mixUp7A {T : Array Value} {l0 l1 l4 l5 l6 l7 l13 l14 l15 l16 l17 l18 l20 : Value} (a b c d h : BitVec 32) {w : World} {Q : Exit → Act → World → Prop} (hL : mixLive T l0 l1 l4 l5 l6 l7 (.int .u32 (u (h))) (.int .u32 (u (a))) (.int .u32 (u (b))) (.int .u32 (u (c))) (.int .u32 (u (d))) l13 l14 l15 l16 l17 l18 l20)
    (hQ : ∀ (T' : Array Value), mixLive T' l0 l1 l4 l5 l6 l7 (.int .u32 (u (h + (Sha.sum0 a + Sha.maj a b c)))) (.int .u32 (u (a))) (.int .u32 (u (b))) (.int .u32 (u (c))) (.int .u32 (u (d + h))) l13 l14 l15 l16 l17 l18 l20 → Q .normal ⟨T', []⟩ (w)) : Code.wp Try.prog (mixReg 31) Q ⟨T, []⟩ w := by
  rw [mixOut T hL.size]
  rw [hL.s0, hL.s1, hL.s4, hL.s5, hL.s6, hL.s7, hL.s8, hL.s9, hL.s10, hL.s11, hL.s12, hL.s13, hL.s14, hL.s15, hL.s16, hL.s17, hL.s18, hL.s20]
  refine mixUp7 a b c d h ?_
  intros
  exact hQ _ ⟨rfl, rfl, rfl, rfl, rfl, rfl, rfl, rfl, rfl, rfl, rfl, rfl, rfl, rfl, rfl, rfl, rfl, rfl, rfl⟩

end Go.Proofs.Ytpjfhbmegabafaa
