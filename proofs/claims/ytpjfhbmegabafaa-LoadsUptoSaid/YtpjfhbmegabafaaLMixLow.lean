/- Regions of sha.mix, one by one. Made by tools/regions.py. -/
import Derived.Test.YtpjfhbmegabafaaLMixWord
namespace Go.Proofs.Ytpjfhbmegabafaa
open Go.RowKit
attribute [local go_sem] u_add u_wrap_add u_or u_and u_xor

set_option maxRecDepth 100000 in
set_option maxHeartbeats 2000000 in
theorem mixLow0 {Aa Ab Ac Ad Ae Af Ag Ah K8 K9 La Lb Ai Aj Ak Al Am An Ao Ap Aq Ar As Au Av Aw Ax Ay Az A0 A1 A2 A3 A4 A5 A6 A7 A8 A9 Ba Bb Bc Bd Be Bf Bg Bh Bi Bj Bk Bl Bm Bn Bo Bp Bq Br Bs Bt Bu Bv Bw Bx Bz B0 B1 B2 B3 B4 B5 B6 B7 B8 B9 Ca Cb Cc Cd Ce Cf Cg Ch Ci Cj Ck Cl Cm Cn Co Cp Cq Cr Cs Ct Cu Cv Cw Cx Cy Cz C0 C1 C2 C3 C4 C5 C6 C7 C8 C9 Da Db Dc Dd De Df Dg Dh Di Dj Dk Dl Dm Dn Dp Dq Hl Hm Hn Ho Hp Hq Hr Hs Ht Hu Hv Hw Hx Hy Hz H0 Dr Ds Dt Du Dv Dw Dx Dy Dz H1 H2 H3 H4 H5 H6 H7 H8 H9 Ia Ib Ic Ie Ig Ih Ii D0 D1 D2 D3 D4 D5 D6 D7 D8 Ij Ik Il Im Io Ip Iq Ir Is It Iu Iv Iw Ix Iy Iz D9 Ea Eb Ec Ed Ee Ef Eg Eh I0 I1 I2 I3 I4 I5 I6 I7 I8 I9 Ja Jb Jc Jd Je Jf Ei Ej Ek El Em En Eo Ep Er Jg Jh Ji Jj Jk Jl Jm Jn Jo Jp Jq Jr Js Jt Ju Jv Es Et Eu Ev Ew Ex Ey Ez E0 Jw Jx Jy Jz J0 J1 J2 J3 J4 J5 J6 J7 J8 J9 Ka Kb E1 E2 E3 E4 E5 E6 E7 E8 E9 Kc Kd Ke Kf Kg Kh Ki Kj Kk Kl Km Kn Ko Kp Kq Kr Fa Fb Fc Fd Fe Ff Fg Fh Fi Ks Kt Ku Kv Kw Kx Ky Kz K0 K1 K2 K3 K4 K5 K6 K7 Fj Fk Fl Fm Fn Fo Fp Fq Fr Fs Ft Fu Fv Fw Fx Fy Fz F0 F1 F2 F3 F4 F5 F6 F7 F8 F9 Ga Gb Gc Gd Ge Gf Gg Gh Gi Gj Gk Gl Gm Gn Gp Gq Gr Gs Gt Gu Gv Gw Gx Gy Gz G0 G1 G2 G3 G4 G5 G6 G7 G8 G9 Ha Hb Hc Hd He Hf Hg Hh Hi Hj Hk : Value} (e f g h K V : BitVec 32) (BT BW k : Nat) {w : World} (hK : w.cell? ⟨BT, k, none⟩ = some (.int .u32 (u K))) (hV : w.cell? ⟨BW, k, none⟩ = some (.int .u32 (u V))) {Q : Exit → Act → World → Prop}
    (hQ : ∀ (Lg Lh Li Lj Lk Ll Lm Ln Lo Lp Lq Lr Ls Lt Lu Lv : Value) (m : Nat), Q .normal ⟨#[
 Aa,Ab,Ac,Ad,Ae,Af,Ag,Ah,K8,K9,La,Lb,(.int .u32 (u (e))),(.int .u32 (u (f))),(.int .u32 (u (g))),.int .u32 (u (h + (Sha.sum1 e + Sha.ch e f g + K + V))),Ai,(.pointer (some ⟨BT,k,none⟩)),
 (.pointer (some ⟨BW,k,none⟩)),Aj,Ak,Al,Am,An,Ao,Ap,Aq,Ar,As,Au,Av,Aw,Ax,Ay,Az,A0,A1,A2,A3,A4,A5,A6,A7,A8,A9,Ba,Bb,
 Bc,Bd,Be,Bf,Bg,Bh,Bi,Bj,Bk,Bl,Bm,Bn,Bo,Bp,Bq,Br,Bs,Bt,Bu,Bv,Bw,Bx,Bz,B0,B1,B2,B3,B4,B5,B6,B7,B8,B9,
 Ca,Cb,Cc,Cd,Ce,Cf,Cg,Ch,Ci,Cj,Ck,Cl,Cm,Cn,Co,Cp,Cq,Cr,Cs,Ct,Cu,Cv,Cw,Cx,Cy,Cz,C0,C1,C2,C3,C4,
 C5,C6,C7,C8,C9,Da,Db,Dc,Dd,De,Df,Dg,Dh,Di,Dj,Dk,Dl,Dm,Dn,Dp,Dq,Lg,Lh,Li,Lj,Lk,Ll,Lm,Ln,
 Lo,Lp,Lq,Lr,Ls,Lt,Lu,Lv,Dr,Ds,Dt,Du,Dv,Dw,Dx,Dy,Dz,H1,H2,H3,H4,H5,H6,H7,H8,H9,Ia,Ib,Ic,
 Ie,Ig,Ih,Ii,D0,D1,D2,D3,D4,D5,D6,D7,D8,Ij,Ik,Il,Im,Io,Ip,Iq,Ir,Is,It,Iu,Iv,Iw,Ix,Iy,Iz,
 D9,Ea,Eb,Ec,Ed,Ee,Ef,Eg,Eh,I0,I1,I2,I3,I4,I5,I6,I7,I8,I9,Ja,Jb,Jc,Jd,Je,Jf,Ei,Ej,Ek,El,
 Em,En,Eo,Ep,Er,Jg,Jh,Ji,Jj,Jk,Jl,Jm,Jn,Jo,Jp,Jq,Jr,Js,Jt,Ju,Jv,Es,Et,Eu,Ev,Ew,Ex,Ey,Ez,
 E0,Jw,Jx,Jy,Jz,J0,J1,J2,J3,J4,J5,J6,J7,J8,J9,Ka,Kb,E1,E2,E3,E4,E5,E6,E7,E8,E9,Kc,Kd,Ke,
 Kf,Kg,Kh,Ki,Kj,Kk,Kl,Km,Kn,Ko,Kp,Kq,Kr,Fa,Fb,Fc,Fd,Fe,Ff,Fg,Fh,Fi,Ks,Kt,Ku,Kv,Kw,Kx,Ky,
 Kz,K0,K1,K2,K3,K4,K5,K6,K7,Fj,Fk,Fl,Fm,Fn,Fo,Fp,Fq,Fr,Fs,Ft,Fu,Fv,Fw,Fx,Fy,Fz,F0,F1,F2,
 F3,F4,F5,F6,F7,F8,F9,Ga,Gb,Gc,Gd,Ge,Gf,Gg,Gh,Gi,Gj,Gk,Gl,Gm,Gn,Gp,Gq,Gr,Gs,Gt,Gu,Gv,Gw,
 Gx,Gy,Gz,G0,G1,G2,G3,G4,G5,G6,G7,G8,G9,Ha,Hb,Hc,Hd,He,Hf,Hg,Hh,Hi,Hj,Hk],[]⟩ (w.drewN m)) :
    Code.wp Try.prog (mixReg 16) Q ⟨#[
 Aa,Ab,Ac,Ad,Ae,Af,Ag,Ah,K8,K9,La,Lb,(.int .u32 (u (e))),(.int .u32 (u (f))),(.int .u32 (u (g))),(.int .u32 (u (h))),Ai,(.pointer (some ⟨BT,k,none⟩)),(.pointer (some ⟨BW,k,none⟩)),
 Aj,Ak,Al,Am,An,Ao,Ap,Aq,Ar,As,Au,Av,Aw,Ax,Ay,Az,A0,A1,A2,A3,A4,A5,A6,A7,A8,A9,Ba,Bb,Bc,Bd,Be,Bf,Bg,
 Bh,Bi,Bj,Bk,Bl,Bm,Bn,Bo,Bp,Bq,Br,Bs,Bt,Bu,Bv,Bw,Bx,Bz,B0,B1,B2,B3,B4,B5,B6,B7,B8,B9,Ca,Cb,Cc,Cd,Ce,
 Cf,Cg,Ch,Ci,Cj,Ck,Cl,Cm,Cn,Co,Cp,Cq,Cr,Cs,Ct,Cu,Cv,Cw,Cx,Cy,Cz,C0,C1,C2,C3,C4,C5,C6,C7,C8,C9,
 Da,Db,Dc,Dd,De,Df,Dg,Dh,Di,Dj,Dk,Dl,Dm,Dn,Dp,Dq,Hl,Hm,Hn,Ho,Hp,Hq,Hr,Hs,Ht,Hu,Hv,Hw,Hx,
 Hy,Hz,H0,Dr,Ds,Dt,Du,Dv,Dw,Dx,Dy,Dz,H1,H2,H3,H4,H5,H6,H7,H8,H9,Ia,Ib,Ic,Ie,Ig,Ih,Ii,D0,
 D1,D2,D3,D4,D5,D6,D7,D8,Ij,Ik,Il,Im,Io,Ip,Iq,Ir,Is,It,Iu,Iv,Iw,Ix,Iy,Iz,D9,Ea,Eb,Ec,Ed,
 Ee,Ef,Eg,Eh,I0,I1,I2,I3,I4,I5,I6,I7,I8,I9,Ja,Jb,Jc,Jd,Je,Jf,Ei,Ej,Ek,El,Em,En,Eo,Ep,Er,
 Jg,Jh,Ji,Jj,Jk,Jl,Jm,Jn,Jo,Jp,Jq,Jr,Js,Jt,Ju,Jv,Es,Et,Eu,Ev,Ew,Ex,Ey,Ez,E0,Jw,Jx,Jy,Jz,
 J0,J1,J2,J3,J4,J5,J6,J7,J8,J9,Ka,Kb,E1,E2,E3,E4,E5,E6,E7,E8,E9,Kc,Kd,Ke,Kf,Kg,Kh,Ki,Kj,
 Kk,Kl,Km,Kn,Ko,Kp,Kq,Kr,Fa,Fb,Fc,Fd,Fe,Ff,Fg,Fh,Fi,Ks,Kt,Ku,Kv,Kw,Kx,Ky,Kz,K0,K1,K2,K3,
 K4,K5,K6,K7,Fj,Fk,Fl,Fm,Fn,Fo,Fp,Fq,Fr,Fs,Ft,Fu,Fv,Fw,Fx,Fy,Fz,F0,F1,F2,F3,F4,F5,F6,F7,
 F8,F9,Ga,Gb,Gc,Gd,Ge,Gf,Gg,Gh,Gi,Gj,Gk,Gl,Gm,Gn,Gp,Gq,Gr,Gs,Gt,Gu,Gv,Gw,Gx,Gy,Gz,G0,G1,
 G2,G3,G4,G5,G6,G7,G8,G9,Ha,Hb,Hc,Hd,He,Hf,Hg,Hh,Hi,Hj,Hk],[]⟩ w := by
  conv => arg 2; whnf
  go_quiet ((go_at_call 105; exact Calls.quiet_of_same (lower_word _ _ _ _)))
  exact hQ _ _ _ _ _ _ _ _ _ _ _ _ _ _ _ _ _

set_option maxRecDepth 100000 in
set_option maxHeartbeats 2000000 in
theorem mixLow1 {Aa Ab Ac Ad Ae Af Ag Ah K8 K9 La Lc Ai Aj Ak Al Am An Ao Ap Aq Ar As Au Av Aw Ax Ay Az A0 A1 A2 A3 A4 A5 A6 A7 A8 A9 Ba Bb Bc Bd Be Bf Bg Bh Bi Bj Bk Bl Bm Bn Bo Bp Bq Br Bs Bt Bu Bv Bw Bx Bz B0 B1 B2 B3 B4 B5 B6 B7 B8 B9 Ca Cb Cc Cd Ce Cf Cg Ch Ci Cj Ck Cl Cm Cn Co Cp Cq Cr Cs Ct Cu Cv Cw Cx Cy Cz C0 C1 C2 C3 C4 C5 C6 C7 C8 C9 Da Db Dc Dd De Df Dg Dh Di Dj Dk Dl Dm Dn Dp Dq Hl Hm Hn Ho Hp Hq Hr Hs Ht Hu Hv Hw Hx Hy Hz H0 Dr Ds Dt Du Dv Dw Dx Dy Dz H1 H2 H3 H4 H5 H6 H7 H8 H9 Ia Ib Ic Ie Ig Ih Ii D0 D1 D2 D3 D4 D5 D6 D7 D8 Ij Ik Il Im Io Ip Iq Ir Is It Iu Iv Iw Ix Iy Iz D9 Ea Eb Ec Ed Ee Ef Eg Eh I0 I1 I2 I3 I4 I5 I6 I7 I8 I9 Ja Jb Jc Jd Je Jf Ei Ej Ek El Em En Eo Ep Er Jg Jh Ji Jj Jk Jl Jm Jn Jo Jp Jq Jr Js Jt Ju Jv Es Et Eu Ev Ew Ex Ey Ez E0 Jw Jx Jy Jz J0 J1 J2 J3 J4 J5 J6 J7 J8 J9 Ka Kb E1 E2 E3 E4 E5 E6 E7 E8 E9 Kc Kd Ke Kf Kg Kh Ki Kj Kk Kl Km Kn Ko Kp Kq Kr Fa Fb Fc Fd Fe Ff Fg Fh Fi Ks Kt Ku Kv Kw Kx Ky Kz K0 K1 K2 K3 K4 K5 K6 K7 Fj Fk Fl Fm Fn Fo Fp Fq Fr Fs Ft Fu Fv Fw Fx Fy Fz F0 F1 F2 F3 F4 F5 F6 F7 F8 F9 Ga Gb Gc Gd Ge Gf Gg Gh Gi Gj Gk Gl Gm Gn Gp Gq Gr Gs Gt Gu Gv Gw Gx Gy Gz G0 G1 G2 G3 G4 G5 G6 G7 G8 G9 Ha Hb Hc Hd He Hf Hg Hh Hi Hj Hk : Value} (e f g h K V : BitVec 32) (BT BW k : Nat) {w : World} (hK : w.cell? ⟨BT, k + 1, none⟩ = some (.int .u32 (u K))) (hV : w.cell? ⟨BW, k + 1, none⟩ = some (.int .u32 (u V))) {Q : Exit → Act → World → Prop}
    (hQ : ∀ (Lw Lx Ly Lz L0 L1 L2 L3 L4 L5 L6 L7 L8 L9 Ma Mb : Value) (m : Nat), Q .normal ⟨#[
 Aa,Ab,Ac,Ad,Ae,Af,Ag,Ah,K8,K9,La,(.int .u32 (u (e))),(.int .u32 (u (f))),(.int .u32 (u (g))),.int .u32 (u (h + (Sha.sum1 e + Sha.ch e f g + K + V))),Lc,Ai,(.pointer (some ⟨BT,k,none⟩)),
 (.pointer (some ⟨BW,k,none⟩)),Aj,Ak,Al,Am,An,Ao,Ap,Aq,Ar,As,Au,Av,Aw,Ax,Ay,Az,A0,A1,A2,A3,A4,A5,A6,A7,A8,A9,Ba,Bb,
 Bc,Bd,Be,Bf,Bg,Bh,Bi,Bj,Bk,Bl,Bm,Bn,Bo,Bp,Bq,Br,Bs,Bt,Bu,Bv,Bw,Bx,Bz,B0,B1,B2,B3,B4,B5,B6,B7,B8,B9,
 Ca,Cb,Cc,Cd,Ce,Cf,Cg,Ch,Ci,Cj,Ck,Cl,Cm,Cn,Co,Cp,Cq,Cr,Cs,Ct,Cu,Cv,Cw,Cx,Cy,Cz,C0,C1,C2,C3,C4,
 C5,C6,C7,C8,C9,Da,Db,Dc,Dd,De,Df,Dg,Dh,Di,Dj,Dk,Dl,Dm,Dn,Dp,Dq,Hl,Hm,Hn,Ho,Hp,Hq,Hr,Hs,
 Ht,Hu,Hv,Hw,Hx,Hy,Hz,H0,Dr,Ds,Dt,Du,Dv,Dw,Dx,Dy,Dz,Lw,Lx,Ly,Lz,L0,L1,L2,L3,L4,L5,L6,L7,
 L8,L9,Ma,Mb,D0,D1,D2,D3,D4,D5,D6,D7,D8,Ij,Ik,Il,Im,Io,Ip,Iq,Ir,Is,It,Iu,Iv,Iw,Ix,Iy,Iz,
 D9,Ea,Eb,Ec,Ed,Ee,Ef,Eg,Eh,I0,I1,I2,I3,I4,I5,I6,I7,I8,I9,Ja,Jb,Jc,Jd,Je,Jf,Ei,Ej,Ek,El,
 Em,En,Eo,Ep,Er,Jg,Jh,Ji,Jj,Jk,Jl,Jm,Jn,Jo,Jp,Jq,Jr,Js,Jt,Ju,Jv,Es,Et,Eu,Ev,Ew,Ex,Ey,Ez,
 E0,Jw,Jx,Jy,Jz,J0,J1,J2,J3,J4,J5,J6,J7,J8,J9,Ka,Kb,E1,E2,E3,E4,E5,E6,E7,E8,E9,Kc,Kd,Ke,
 Kf,Kg,Kh,Ki,Kj,Kk,Kl,Km,Kn,Ko,Kp,Kq,Kr,Fa,Fb,Fc,Fd,Fe,Ff,Fg,Fh,Fi,Ks,Kt,Ku,Kv,Kw,Kx,Ky,
 Kz,K0,K1,K2,K3,K4,K5,K6,K7,Fj,Fk,Fl,Fm,Fn,Fo,Fp,Fq,Fr,Fs,Ft,Fu,Fv,Fw,Fx,Fy,Fz,F0,F1,F2,
 F3,F4,F5,F6,F7,F8,F9,Ga,Gb,Gc,Gd,Ge,Gf,Gg,Gh,Gi,Gj,Gk,Gl,Gm,Gn,Gp,Gq,Gr,Gs,Gt,Gu,Gv,Gw,
 Gx,Gy,Gz,G0,G1,G2,G3,G4,G5,G6,G7,G8,G9,Ha,Hb,Hc,Hd,He,Hf,Hg,Hh,Hi,Hj,Hk],[]⟩ (w.drewN m)) :
    Code.wp Try.prog (mixReg 18) Q ⟨#[
 Aa,Ab,Ac,Ad,Ae,Af,Ag,Ah,K8,K9,La,(.int .u32 (u (e))),(.int .u32 (u (f))),(.int .u32 (u (g))),(.int .u32 (u (h))),Lc,Ai,(.pointer (some ⟨BT,k,none⟩)),(.pointer (some ⟨BW,k,none⟩)),
 Aj,Ak,Al,Am,An,Ao,Ap,Aq,Ar,As,Au,Av,Aw,Ax,Ay,Az,A0,A1,A2,A3,A4,A5,A6,A7,A8,A9,Ba,Bb,Bc,Bd,Be,Bf,Bg,
 Bh,Bi,Bj,Bk,Bl,Bm,Bn,Bo,Bp,Bq,Br,Bs,Bt,Bu,Bv,Bw,Bx,Bz,B0,B1,B2,B3,B4,B5,B6,B7,B8,B9,Ca,Cb,Cc,Cd,Ce,
 Cf,Cg,Ch,Ci,Cj,Ck,Cl,Cm,Cn,Co,Cp,Cq,Cr,Cs,Ct,Cu,Cv,Cw,Cx,Cy,Cz,C0,C1,C2,C3,C4,C5,C6,C7,C8,C9,
 Da,Db,Dc,Dd,De,Df,Dg,Dh,Di,Dj,Dk,Dl,Dm,Dn,Dp,Dq,Hl,Hm,Hn,Ho,Hp,Hq,Hr,Hs,Ht,Hu,Hv,Hw,Hx,
 Hy,Hz,H0,Dr,Ds,Dt,Du,Dv,Dw,Dx,Dy,Dz,H1,H2,H3,H4,H5,H6,H7,H8,H9,Ia,Ib,Ic,Ie,Ig,Ih,Ii,D0,
 D1,D2,D3,D4,D5,D6,D7,D8,Ij,Ik,Il,Im,Io,Ip,Iq,Ir,Is,It,Iu,Iv,Iw,Ix,Iy,Iz,D9,Ea,Eb,Ec,Ed,
 Ee,Ef,Eg,Eh,I0,I1,I2,I3,I4,I5,I6,I7,I8,I9,Ja,Jb,Jc,Jd,Je,Jf,Ei,Ej,Ek,El,Em,En,Eo,Ep,Er,
 Jg,Jh,Ji,Jj,Jk,Jl,Jm,Jn,Jo,Jp,Jq,Jr,Js,Jt,Ju,Jv,Es,Et,Eu,Ev,Ew,Ex,Ey,Ez,E0,Jw,Jx,Jy,Jz,
 J0,J1,J2,J3,J4,J5,J6,J7,J8,J9,Ka,Kb,E1,E2,E3,E4,E5,E6,E7,E8,E9,Kc,Kd,Ke,Kf,Kg,Kh,Ki,Kj,
 Kk,Kl,Km,Kn,Ko,Kp,Kq,Kr,Fa,Fb,Fc,Fd,Fe,Ff,Fg,Fh,Fi,Ks,Kt,Ku,Kv,Kw,Kx,Ky,Kz,K0,K1,K2,K3,
 K4,K5,K6,K7,Fj,Fk,Fl,Fm,Fn,Fo,Fp,Fq,Fr,Fs,Ft,Fu,Fv,Fw,Fx,Fy,Fz,F0,F1,F2,F3,F4,F5,F6,F7,
 F8,F9,Ga,Gb,Gc,Gd,Ge,Gf,Gg,Gh,Gi,Gj,Gk,Gl,Gm,Gn,Gp,Gq,Gr,Gs,Gt,Gu,Gv,Gw,Gx,Gy,Gz,G0,G1,
 G2,G3,G4,G5,G6,G7,G8,G9,Ha,Hb,Hc,Hd,He,Hf,Hg,Hh,Hi,Hj,Hk],[]⟩ w := by
  conv => arg 2; whnf
  go_quiet ((go_at_call 105; exact Calls.quiet_of_same (lower_word _ _ _ _)))
  exact hQ _ _ _ _ _ _ _ _ _ _ _ _ _ _ _ _ _

set_option maxRecDepth 100000 in
set_option maxHeartbeats 2000000 in
theorem mixLow2 {Aa Ab Ac Ad Ae Af Ag Ah K8 K9 Ld Lc Ai Aj Ak Al Am An Ao Ap Aq Ar As Au Av Aw Ax Ay Az A0 A1 A2 A3 A4 A5 A6 A7 A8 A9 Ba Bb Bc Bd Be Bf Bg Bh Bi Bj Bk Bl Bm Bn Bo Bp Bq Br Bs Bt Bu Bv Bw Bx Bz B0 B1 B2 B3 B4 B5 B6 B7 B8 B9 Ca Cb Cc Cd Ce Cf Cg Ch Ci Cj Ck Cl Cm Cn Co Cp Cq Cr Cs Ct Cu Cv Cw Cx Cy Cz C0 C1 C2 C3 C4 C5 C6 C7 C8 C9 Da Db Dc Dd De Df Dg Dh Di Dj Dk Dl Dm Dn Dp Dq Hl Hm Hn Ho Hp Hq Hr Hs Ht Hu Hv Hw Hx Hy Hz H0 Dr Ds Dt Du Dv Dw Dx Dy Dz H1 H2 H3 H4 H5 H6 H7 H8 H9 Ia Ib Ic Ie Ig Ih Ii D0 D1 D2 D3 D4 D5 D6 D7 D8 Ij Ik Il Im Io Ip Iq Ir Is It Iu Iv Iw Ix Iy Iz D9 Ea Eb Ec Ed Ee Ef Eg Eh I0 I1 I2 I3 I4 I5 I6 I7 I8 I9 Ja Jb Jc Jd Je Jf Ei Ej Ek El Em En Eo Ep Er Jg Jh Ji Jj Jk Jl Jm Jn Jo Jp Jq Jr Js Jt Ju Jv Es Et Eu Ev Ew Ex Ey Ez E0 Jw Jx Jy Jz J0 J1 J2 J3 J4 J5 J6 J7 J8 J9 Ka Kb E1 E2 E3 E4 E5 E6 E7 E8 E9 Kc Kd Ke Kf Kg Kh Ki Kj Kk Kl Km Kn Ko Kp Kq Kr Fa Fb Fc Fd Fe Ff Fg Fh Fi Ks Kt Ku Kv Kw Kx Ky Kz K0 K1 K2 K3 K4 K5 K6 K7 Fj Fk Fl Fm Fn Fo Fp Fq Fr Fs Ft Fu Fv Fw Fx Fy Fz F0 F1 F2 F3 F4 F5 F6 F7 F8 F9 Ga Gb Gc Gd Ge Gf Gg Gh Gi Gj Gk Gl Gm Gn Gp Gq Gr Gs Gt Gu Gv Gw Gx Gy Gz G0 G1 G2 G3 G4 G5 G6 G7 G8 G9 Ha Hb Hc Hd He Hf Hg Hh Hi Hj Hk : Value} (e f g h K V : BitVec 32) (BT BW k : Nat) {w : World} (hK : w.cell? ⟨BT, k + 2, none⟩ = some (.int .u32 (u K))) (hV : w.cell? ⟨BW, k + 2, none⟩ = some (.int .u32 (u V))) {Q : Exit → Act → World → Prop}
    (hQ : ∀ (Mc Md Me Mf Mg Mh Mi Mj Mk Ml Mm Mn Mo Mp Mq Mr : Value) (m : Nat), Q .normal ⟨#[
 Aa,Ab,Ac,Ad,Ae,Af,Ag,Ah,K8,K9,(.int .u32 (u (e))),(.int .u32 (u (f))),(.int .u32 (u (g))),.int .u32 (u (h + (Sha.sum1 e + Sha.ch e f g + K + V))),Ld,Lc,Ai,(.pointer (some ⟨BT,k,none⟩)),
 (.pointer (some ⟨BW,k,none⟩)),Aj,Ak,Al,Am,An,Ao,Ap,Aq,Ar,As,Au,Av,Aw,Ax,Ay,Az,A0,A1,A2,A3,A4,A5,A6,A7,A8,A9,Ba,Bb,
 Bc,Bd,Be,Bf,Bg,Bh,Bi,Bj,Bk,Bl,Bm,Bn,Bo,Bp,Bq,Br,Bs,Bt,Bu,Bv,Bw,Bx,Bz,B0,B1,B2,B3,B4,B5,B6,B7,B8,B9,
 Ca,Cb,Cc,Cd,Ce,Cf,Cg,Ch,Ci,Cj,Ck,Cl,Cm,Cn,Co,Cp,Cq,Cr,Cs,Ct,Cu,Cv,Cw,Cx,Cy,Cz,C0,C1,C2,C3,C4,
 C5,C6,C7,C8,C9,Da,Db,Dc,Dd,De,Df,Dg,Dh,Di,Dj,Dk,Dl,Dm,Dn,Dp,Dq,Hl,Hm,Hn,Ho,Hp,Hq,Hr,Hs,
 Ht,Hu,Hv,Hw,Hx,Hy,Hz,H0,Dr,Ds,Dt,Du,Dv,Dw,Dx,Dy,Dz,H1,H2,H3,H4,H5,H6,H7,H8,H9,Ia,Ib,Ic,
 Ie,Ig,Ih,Ii,D0,D1,D2,D3,D4,D5,D6,D7,D8,Mc,Md,Me,Mf,Mg,Mh,Mi,Mj,Mk,Ml,Mm,Mn,Mo,Mp,Mq,Mr,
 D9,Ea,Eb,Ec,Ed,Ee,Ef,Eg,Eh,I0,I1,I2,I3,I4,I5,I6,I7,I8,I9,Ja,Jb,Jc,Jd,Je,Jf,Ei,Ej,Ek,El,
 Em,En,Eo,Ep,Er,Jg,Jh,Ji,Jj,Jk,Jl,Jm,Jn,Jo,Jp,Jq,Jr,Js,Jt,Ju,Jv,Es,Et,Eu,Ev,Ew,Ex,Ey,Ez,
 E0,Jw,Jx,Jy,Jz,J0,J1,J2,J3,J4,J5,J6,J7,J8,J9,Ka,Kb,E1,E2,E3,E4,E5,E6,E7,E8,E9,Kc,Kd,Ke,
 Kf,Kg,Kh,Ki,Kj,Kk,Kl,Km,Kn,Ko,Kp,Kq,Kr,Fa,Fb,Fc,Fd,Fe,Ff,Fg,Fh,Fi,Ks,Kt,Ku,Kv,Kw,Kx,Ky,
 Kz,K0,K1,K2,K3,K4,K5,K6,K7,Fj,Fk,Fl,Fm,Fn,Fo,Fp,Fq,Fr,Fs,Ft,Fu,Fv,Fw,Fx,Fy,Fz,F0,F1,F2,
 F3,F4,F5,F6,F7,F8,F9,Ga,Gb,Gc,Gd,Ge,Gf,Gg,Gh,Gi,Gj,Gk,Gl,Gm,Gn,Gp,Gq,Gr,Gs,Gt,Gu,Gv,Gw,
 Gx,Gy,Gz,G0,G1,G2,G3,G4,G5,G6,G7,G8,G9,Ha,Hb,Hc,Hd,He,Hf,Hg,Hh,Hi,Hj,Hk],[]⟩ (w.drewN m)) :
    Code.wp Try.prog (mixReg 20) Q ⟨#[
 Aa,Ab,Ac,Ad,Ae,Af,Ag,Ah,K8,K9,(.int .u32 (u (e))),(.int .u32 (u (f))),(.int .u32 (u (g))),(.int .u32 (u (h))),Ld,Lc,Ai,(.pointer (some ⟨BT,k,none⟩)),(.pointer (some ⟨BW,k,none⟩)),
 Aj,Ak,Al,Am,An,Ao,Ap,Aq,Ar,As,Au,Av,Aw,Ax,Ay,Az,A0,A1,A2,A3,A4,A5,A6,A7,A8,A9,Ba,Bb,Bc,Bd,Be,Bf,Bg,
 Bh,Bi,Bj,Bk,Bl,Bm,Bn,Bo,Bp,Bq,Br,Bs,Bt,Bu,Bv,Bw,Bx,Bz,B0,B1,B2,B3,B4,B5,B6,B7,B8,B9,Ca,Cb,Cc,Cd,Ce,
 Cf,Cg,Ch,Ci,Cj,Ck,Cl,Cm,Cn,Co,Cp,Cq,Cr,Cs,Ct,Cu,Cv,Cw,Cx,Cy,Cz,C0,C1,C2,C3,C4,C5,C6,C7,C8,C9,
 Da,Db,Dc,Dd,De,Df,Dg,Dh,Di,Dj,Dk,Dl,Dm,Dn,Dp,Dq,Hl,Hm,Hn,Ho,Hp,Hq,Hr,Hs,Ht,Hu,Hv,Hw,Hx,
 Hy,Hz,H0,Dr,Ds,Dt,Du,Dv,Dw,Dx,Dy,Dz,H1,H2,H3,H4,H5,H6,H7,H8,H9,Ia,Ib,Ic,Ie,Ig,Ih,Ii,D0,
 D1,D2,D3,D4,D5,D6,D7,D8,Ij,Ik,Il,Im,Io,Ip,Iq,Ir,Is,It,Iu,Iv,Iw,Ix,Iy,Iz,D9,Ea,Eb,Ec,Ed,
 Ee,Ef,Eg,Eh,I0,I1,I2,I3,I4,I5,I6,I7,I8,I9,Ja,Jb,Jc,Jd,Je,Jf,Ei,Ej,Ek,El,Em,En,Eo,Ep,Er,
 Jg,Jh,Ji,Jj,Jk,Jl,Jm,Jn,Jo,Jp,Jq,Jr,Js,Jt,Ju,Jv,Es,Et,Eu,Ev,Ew,Ex,Ey,Ez,E0,Jw,Jx,Jy,Jz,
 J0,J1,J2,J3,J4,J5,J6,J7,J8,J9,Ka,Kb,E1,E2,E3,E4,E5,E6,E7,E8,E9,Kc,Kd,Ke,Kf,Kg,Kh,Ki,Kj,
 Kk,Kl,Km,Kn,Ko,Kp,Kq,Kr,Fa,Fb,Fc,Fd,Fe,Ff,Fg,Fh,Fi,Ks,Kt,Ku,Kv,Kw,Kx,Ky,Kz,K0,K1,K2,K3,
 K4,K5,K6,K7,Fj,Fk,Fl,Fm,Fn,Fo,Fp,Fq,Fr,Fs,Ft,Fu,Fv,Fw,Fx,Fy,Fz,F0,F1,F2,F3,F4,F5,F6,F7,
 F8,F9,Ga,Gb,Gc,Gd,Ge,Gf,Gg,Gh,Gi,Gj,Gk,Gl,Gm,Gn,Gp,Gq,Gr,Gs,Gt,Gu,Gv,Gw,Gx,Gy,Gz,G0,G1,
 G2,G3,G4,G5,G6,G7,G8,G9,Ha,Hb,Hc,Hd,He,Hf,Hg,Hh,Hi,Hj,Hk],[]⟩ w := by
  conv => arg 2; whnf
  go_quiet ((go_at_call 105; exact Calls.quiet_of_same (lower_word _ _ _ _)))
  exact hQ _ _ _ _ _ _ _ _ _ _ _ _ _ _ _ _ _

set_option maxRecDepth 100000 in
set_option maxHeartbeats 2000000 in
theorem mixLow3 {Aa Ab Ac Ad Ae Af Ag Ah K8 Le Ld Lc Ai Aj Ak Al Am An Ao Ap Aq Ar As Au Av Aw Ax Ay Az A0 A1 A2 A3 A4 A5 A6 A7 A8 A9 Ba Bb Bc Bd Be Bf Bg Bh Bi Bj Bk Bl Bm Bn Bo Bp Bq Br Bs Bt Bu Bv Bw Bx Bz B0 B1 B2 B3 B4 B5 B6 B7 B8 B9 Ca Cb Cc Cd Ce Cf Cg Ch Ci Cj Ck Cl Cm Cn Co Cp Cq Cr Cs Ct Cu Cv Cw Cx Cy Cz C0 C1 C2 C3 C4 C5 C6 C7 C8 C9 Da Db Dc Dd De Df Dg Dh Di Dj Dk Dl Dm Dn Dp Dq Hl Hm Hn Ho Hp Hq Hr Hs Ht Hu Hv Hw Hx Hy Hz H0 Dr Ds Dt Du Dv Dw Dx Dy Dz H1 H2 H3 H4 H5 H6 H7 H8 H9 Ia Ib Ic Ie Ig Ih Ii D0 D1 D2 D3 D4 D5 D6 D7 D8 Ij Ik Il Im Io Ip Iq Ir Is It Iu Iv Iw Ix Iy Iz D9 Ea Eb Ec Ed Ee Ef Eg Eh I0 I1 I2 I3 I4 I5 I6 I7 I8 I9 Ja Jb Jc Jd Je Jf Ei Ej Ek El Em En Eo Ep Er Jg Jh Ji Jj Jk Jl Jm Jn Jo Jp Jq Jr Js Jt Ju Jv Es Et Eu Ev Ew Ex Ey Ez E0 Jw Jx Jy Jz J0 J1 J2 J3 J4 J5 J6 J7 J8 J9 Ka Kb E1 E2 E3 E4 E5 E6 E7 E8 E9 Kc Kd Ke Kf Kg Kh Ki Kj Kk Kl Km Kn Ko Kp Kq Kr Fa Fb Fc Fd Fe Ff Fg Fh Fi Ks Kt Ku Kv Kw Kx Ky Kz K0 K1 K2 K3 K4 K5 K6 K7 Fj Fk Fl Fm Fn Fo Fp Fq Fr Fs Ft Fu Fv Fw Fx Fy Fz F0 F1 F2 F3 F4 F5 F6 F7 F8 F9 Ga Gb Gc Gd Ge Gf Gg Gh Gi Gj Gk Gl Gm Gn Gp Gq Gr Gs Gt Gu Gv Gw Gx Gy Gz G0 G1 G2 G3 G4 G5 G6 G7 G8 G9 Ha Hb Hc Hd He Hf Hg Hh Hi Hj Hk : Value} (e f g h K V : BitVec 32) (BT BW k : Nat) {w : World} (hK : w.cell? ⟨BT, k + 3, none⟩ = some (.int .u32 (u K))) (hV : w.cell? ⟨BW, k + 3, none⟩ = some (.int .u32 (u V))) {Q : Exit → Act → World → Prop}
    (hQ : ∀ (Ms Mt Mu Mv Mw Mx My Mz M0 M1 M2 M3 M4 M5 M6 M7 : Value) (m : Nat), Q .normal ⟨#[
 Aa,Ab,Ac,Ad,Ae,Af,Ag,Ah,K8,(.int .u32 (u (e))),(.int .u32 (u (f))),(.int .u32 (u (g))),.int .u32 (u (h + (Sha.sum1 e + Sha.ch e f g + K + V))),Le,Ld,Lc,Ai,(.pointer (some ⟨BT,k,none⟩)),
 (.pointer (some ⟨BW,k,none⟩)),Aj,Ak,Al,Am,An,Ao,Ap,Aq,Ar,As,Au,Av,Aw,Ax,Ay,Az,A0,A1,A2,A3,A4,A5,A6,A7,A8,A9,Ba,Bb,
 Bc,Bd,Be,Bf,Bg,Bh,Bi,Bj,Bk,Bl,Bm,Bn,Bo,Bp,Bq,Br,Bs,Bt,Bu,Bv,Bw,Bx,Bz,B0,B1,B2,B3,B4,B5,B6,B7,B8,B9,
 Ca,Cb,Cc,Cd,Ce,Cf,Cg,Ch,Ci,Cj,Ck,Cl,Cm,Cn,Co,Cp,Cq,Cr,Cs,Ct,Cu,Cv,Cw,Cx,Cy,Cz,C0,C1,C2,C3,C4,
 C5,C6,C7,C8,C9,Da,Db,Dc,Dd,De,Df,Dg,Dh,Di,Dj,Dk,Dl,Dm,Dn,Dp,Dq,Hl,Hm,Hn,Ho,Hp,Hq,Hr,Hs,
 Ht,Hu,Hv,Hw,Hx,Hy,Hz,H0,Dr,Ds,Dt,Du,Dv,Dw,Dx,Dy,Dz,H1,H2,H3,H4,H5,H6,H7,H8,H9,Ia,Ib,Ic,
 Ie,Ig,Ih,Ii,D0,D1,D2,D3,D4,D5,D6,D7,D8,Ij,Ik,Il,Im,Io,Ip,Iq,Ir,Is,It,Iu,Iv,Iw,Ix,Iy,Iz,
 D9,Ea,Eb,Ec,Ed,Ee,Ef,Eg,Eh,Ms,Mt,Mu,Mv,Mw,Mx,My,Mz,M0,M1,M2,M3,M4,M5,M6,M7,Ei,Ej,Ek,El,
 Em,En,Eo,Ep,Er,Jg,Jh,Ji,Jj,Jk,Jl,Jm,Jn,Jo,Jp,Jq,Jr,Js,Jt,Ju,Jv,Es,Et,Eu,Ev,Ew,Ex,Ey,Ez,
 E0,Jw,Jx,Jy,Jz,J0,J1,J2,J3,J4,J5,J6,J7,J8,J9,Ka,Kb,E1,E2,E3,E4,E5,E6,E7,E8,E9,Kc,Kd,Ke,
 Kf,Kg,Kh,Ki,Kj,Kk,Kl,Km,Kn,Ko,Kp,Kq,Kr,Fa,Fb,Fc,Fd,Fe,Ff,Fg,Fh,Fi,Ks,Kt,Ku,Kv,Kw,Kx,Ky,
 Kz,K0,K1,K2,K3,K4,K5,K6,K7,Fj,Fk,Fl,Fm,Fn,Fo,Fp,Fq,Fr,Fs,Ft,Fu,Fv,Fw,Fx,Fy,Fz,F0,F1,F2,
 F3,F4,F5,F6,F7,F8,F9,Ga,Gb,Gc,Gd,Ge,Gf,Gg,Gh,Gi,Gj,Gk,Gl,Gm,Gn,Gp,Gq,Gr,Gs,Gt,Gu,Gv,Gw,
 Gx,Gy,Gz,G0,G1,G2,G3,G4,G5,G6,G7,G8,G9,Ha,Hb,Hc,Hd,He,Hf,Hg,Hh,Hi,Hj,Hk],[]⟩ (w.drewN m)) :
    Code.wp Try.prog (mixReg 22) Q ⟨#[
 Aa,Ab,Ac,Ad,Ae,Af,Ag,Ah,K8,(.int .u32 (u (e))),(.int .u32 (u (f))),(.int .u32 (u (g))),(.int .u32 (u (h))),Le,Ld,Lc,Ai,(.pointer (some ⟨BT,k,none⟩)),(.pointer (some ⟨BW,k,none⟩)),
 Aj,Ak,Al,Am,An,Ao,Ap,Aq,Ar,As,Au,Av,Aw,Ax,Ay,Az,A0,A1,A2,A3,A4,A5,A6,A7,A8,A9,Ba,Bb,Bc,Bd,Be,Bf,Bg,
 Bh,Bi,Bj,Bk,Bl,Bm,Bn,Bo,Bp,Bq,Br,Bs,Bt,Bu,Bv,Bw,Bx,Bz,B0,B1,B2,B3,B4,B5,B6,B7,B8,B9,Ca,Cb,Cc,Cd,Ce,
 Cf,Cg,Ch,Ci,Cj,Ck,Cl,Cm,Cn,Co,Cp,Cq,Cr,Cs,Ct,Cu,Cv,Cw,Cx,Cy,Cz,C0,C1,C2,C3,C4,C5,C6,C7,C8,C9,
 Da,Db,Dc,Dd,De,Df,Dg,Dh,Di,Dj,Dk,Dl,Dm,Dn,Dp,Dq,Hl,Hm,Hn,Ho,Hp,Hq,Hr,Hs,Ht,Hu,Hv,Hw,Hx,
 Hy,Hz,H0,Dr,Ds,Dt,Du,Dv,Dw,Dx,Dy,Dz,H1,H2,H3,H4,H5,H6,H7,H8,H9,Ia,Ib,Ic,Ie,Ig,Ih,Ii,D0,
 D1,D2,D3,D4,D5,D6,D7,D8,Ij,Ik,Il,Im,Io,Ip,Iq,Ir,Is,It,Iu,Iv,Iw,Ix,Iy,Iz,D9,Ea,Eb,Ec,Ed,
 Ee,Ef,Eg,Eh,I0,I1,I2,I3,I4,I5,I6,I7,I8,I9,Ja,Jb,Jc,Jd,Je,Jf,Ei,Ej,Ek,El,Em,En,Eo,Ep,Er,
 Jg,Jh,Ji,Jj,Jk,Jl,Jm,Jn,Jo,Jp,Jq,Jr,Js,Jt,Ju,Jv,Es,Et,Eu,Ev,Ew,Ex,Ey,Ez,E0,Jw,Jx,Jy,Jz,
 J0,J1,J2,J3,J4,J5,J6,J7,J8,J9,Ka,Kb,E1,E2,E3,E4,E5,E6,E7,E8,E9,Kc,Kd,Ke,Kf,Kg,Kh,Ki,Kj,
 Kk,Kl,Km,Kn,Ko,Kp,Kq,Kr,Fa,Fb,Fc,Fd,Fe,Ff,Fg,Fh,Fi,Ks,Kt,Ku,Kv,Kw,Kx,Ky,Kz,K0,K1,K2,K3,
 K4,K5,K6,K7,Fj,Fk,Fl,Fm,Fn,Fo,Fp,Fq,Fr,Fs,Ft,Fu,Fv,Fw,Fx,Fy,Fz,F0,F1,F2,F3,F4,F5,F6,F7,
 F8,F9,Ga,Gb,Gc,Gd,Ge,Gf,Gg,Gh,Gi,Gj,Gk,Gl,Gm,Gn,Gp,Gq,Gr,Gs,Gt,Gu,Gv,Gw,Gx,Gy,Gz,G0,G1,
 G2,G3,G4,G5,G6,G7,G8,G9,Ha,Hb,Hc,Hd,He,Hf,Hg,Hh,Hi,Hj,Hk],[]⟩ w := by
  conv => arg 2; whnf
  go_quiet ((go_at_call 105; exact Calls.quiet_of_same (lower_word _ _ _ _)))
  exact hQ _ _ _ _ _ _ _ _ _ _ _ _ _ _ _ _ _

set_option maxRecDepth 100000 in
set_option maxHeartbeats 2000000 in
theorem mixLow4 {Aa Ab Ac Ad Ae Af Ag Ah Lf Le Ld Lc Ai Aj Ak Al Am An Ao Ap Aq Ar As Au Av Aw Ax Ay Az A0 A1 A2 A3 A4 A5 A6 A7 A8 A9 Ba Bb Bc Bd Be Bf Bg Bh Bi Bj Bk Bl Bm Bn Bo Bp Bq Br Bs Bt Bu Bv Bw Bx Bz B0 B1 B2 B3 B4 B5 B6 B7 B8 B9 Ca Cb Cc Cd Ce Cf Cg Ch Ci Cj Ck Cl Cm Cn Co Cp Cq Cr Cs Ct Cu Cv Cw Cx Cy Cz C0 C1 C2 C3 C4 C5 C6 C7 C8 C9 Da Db Dc Dd De Df Dg Dh Di Dj Dk Dl Dm Dn Dp Dq Hl Hm Hn Ho Hp Hq Hr Hs Ht Hu Hv Hw Hx Hy Hz H0 Dr Ds Dt Du Dv Dw Dx Dy Dz H1 H2 H3 H4 H5 H6 H7 H8 H9 Ia Ib Ic Ie Ig Ih Ii D0 D1 D2 D3 D4 D5 D6 D7 D8 Ij Ik Il Im Io Ip Iq Ir Is It Iu Iv Iw Ix Iy Iz D9 Ea Eb Ec Ed Ee Ef Eg Eh I0 I1 I2 I3 I4 I5 I6 I7 I8 I9 Ja Jb Jc Jd Je Jf Ei Ej Ek El Em En Eo Ep Er Jg Jh Ji Jj Jk Jl Jm Jn Jo Jp Jq Jr Js Jt Ju Jv Es Et Eu Ev Ew Ex Ey Ez E0 Jw Jx Jy Jz J0 J1 J2 J3 J4 J5 J6 J7 J8 J9 Ka Kb E1 E2 E3 E4 E5 E6 E7 E8 E9 Kc Kd Ke Kf Kg Kh Ki Kj Kk Kl Km Kn Ko Kp Kq Kr Fa Fb Fc Fd Fe Ff Fg Fh Fi Ks Kt Ku Kv Kw Kx Ky Kz K0 K1 K2 K3 K4 K5 K6 K7 Fj Fk Fl Fm Fn Fo Fp Fq Fr Fs Ft Fu Fv Fw Fx Fy Fz F0 F1 F2 F3 F4 F5 F6 F7 F8 F9 Ga Gb Gc Gd Ge Gf Gg Gh Gi Gj Gk Gl Gm Gn Gp Gq Gr Gs Gt Gu Gv Gw Gx Gy Gz G0 G1 G2 G3 G4 G5 G6 G7 G8 G9 Ha Hb Hc Hd He Hf Hg Hh Hi Hj Hk : Value} (e f g h K V : BitVec 32) (BT BW k : Nat) {w : World} (hK : w.cell? ⟨BT, k + 4, none⟩ = some (.int .u32 (u K))) (hV : w.cell? ⟨BW, k + 4, none⟩ = some (.int .u32 (u V))) {Q : Exit → Act → World → Prop}
    (hQ : ∀ (M8 M9 Na Nb Nc Nd Nf Ng Nh Ni Nj Nk Nl Nm Nn No : Value) (m : Nat), Q .normal ⟨#[
 Aa,Ab,Ac,Ad,Ae,Af,Ag,Ah,(.int .u32 (u (e))),(.int .u32 (u (f))),(.int .u32 (u (g))),.int .u32 (u (h + (Sha.sum1 e + Sha.ch e f g + K + V))),Lf,Le,Ld,Lc,Ai,(.pointer (some ⟨BT,k,none⟩)),
 (.pointer (some ⟨BW,k,none⟩)),Aj,Ak,Al,Am,An,Ao,Ap,Aq,Ar,As,Au,Av,Aw,Ax,Ay,Az,A0,A1,A2,A3,A4,A5,A6,A7,A8,A9,Ba,Bb,
 Bc,Bd,Be,Bf,Bg,Bh,Bi,Bj,Bk,Bl,Bm,Bn,Bo,Bp,Bq,Br,Bs,Bt,Bu,Bv,Bw,Bx,Bz,B0,B1,B2,B3,B4,B5,B6,B7,B8,B9,
 Ca,Cb,Cc,Cd,Ce,Cf,Cg,Ch,Ci,Cj,Ck,Cl,Cm,Cn,Co,Cp,Cq,Cr,Cs,Ct,Cu,Cv,Cw,Cx,Cy,Cz,C0,C1,C2,C3,C4,
 C5,C6,C7,C8,C9,Da,Db,Dc,Dd,De,Df,Dg,Dh,Di,Dj,Dk,Dl,Dm,Dn,Dp,Dq,Hl,Hm,Hn,Ho,Hp,Hq,Hr,Hs,
 Ht,Hu,Hv,Hw,Hx,Hy,Hz,H0,Dr,Ds,Dt,Du,Dv,Dw,Dx,Dy,Dz,H1,H2,H3,H4,H5,H6,H7,H8,H9,Ia,Ib,Ic,
 Ie,Ig,Ih,Ii,D0,D1,D2,D3,D4,D5,D6,D7,D8,Ij,Ik,Il,Im,Io,Ip,Iq,Ir,Is,It,Iu,Iv,Iw,Ix,Iy,Iz,
 D9,Ea,Eb,Ec,Ed,Ee,Ef,Eg,Eh,I0,I1,I2,I3,I4,I5,I6,I7,I8,I9,Ja,Jb,Jc,Jd,Je,Jf,Ei,Ej,Ek,El,
 Em,En,Eo,Ep,Er,M8,M9,Na,Nb,Nc,Nd,Nf,Ng,Nh,Ni,Nj,Nk,Nl,Nm,Nn,No,Es,Et,Eu,Ev,Ew,Ex,Ey,Ez,
 E0,Jw,Jx,Jy,Jz,J0,J1,J2,J3,J4,J5,J6,J7,J8,J9,Ka,Kb,E1,E2,E3,E4,E5,E6,E7,E8,E9,Kc,Kd,Ke,
 Kf,Kg,Kh,Ki,Kj,Kk,Kl,Km,Kn,Ko,Kp,Kq,Kr,Fa,Fb,Fc,Fd,Fe,Ff,Fg,Fh,Fi,Ks,Kt,Ku,Kv,Kw,Kx,Ky,
 Kz,K0,K1,K2,K3,K4,K5,K6,K7,Fj,Fk,Fl,Fm,Fn,Fo,Fp,Fq,Fr,Fs,Ft,Fu,Fv,Fw,Fx,Fy,Fz,F0,F1,F2,
 F3,F4,F5,F6,F7,F8,F9,Ga,Gb,Gc,Gd,Ge,Gf,Gg,Gh,Gi,Gj,Gk,Gl,Gm,Gn,Gp,Gq,Gr,Gs,Gt,Gu,Gv,Gw,
 Gx,Gy,Gz,G0,G1,G2,G3,G4,G5,G6,G7,G8,G9,Ha,Hb,Hc,Hd,He,Hf,Hg,Hh,Hi,Hj,Hk],[]⟩ (w.drewN m)) :
    Code.wp Try.prog (mixReg 24) Q ⟨#[
 Aa,Ab,Ac,Ad,Ae,Af,Ag,Ah,(.int .u32 (u (e))),(.int .u32 (u (f))),(.int .u32 (u (g))),(.int .u32 (u (h))),Lf,Le,Ld,Lc,Ai,(.pointer (some ⟨BT,k,none⟩)),(.pointer (some ⟨BW,k,none⟩)),
 Aj,Ak,Al,Am,An,Ao,Ap,Aq,Ar,As,Au,Av,Aw,Ax,Ay,Az,A0,A1,A2,A3,A4,A5,A6,A7,A8,A9,Ba,Bb,Bc,Bd,Be,Bf,Bg,
 Bh,Bi,Bj,Bk,Bl,Bm,Bn,Bo,Bp,Bq,Br,Bs,Bt,Bu,Bv,Bw,Bx,Bz,B0,B1,B2,B3,B4,B5,B6,B7,B8,B9,Ca,Cb,Cc,Cd,Ce,
 Cf,Cg,Ch,Ci,Cj,Ck,Cl,Cm,Cn,Co,Cp,Cq,Cr,Cs,Ct,Cu,Cv,Cw,Cx,Cy,Cz,C0,C1,C2,C3,C4,C5,C6,C7,C8,C9,
 Da,Db,Dc,Dd,De,Df,Dg,Dh,Di,Dj,Dk,Dl,Dm,Dn,Dp,Dq,Hl,Hm,Hn,Ho,Hp,Hq,Hr,Hs,Ht,Hu,Hv,Hw,Hx,
 Hy,Hz,H0,Dr,Ds,Dt,Du,Dv,Dw,Dx,Dy,Dz,H1,H2,H3,H4,H5,H6,H7,H8,H9,Ia,Ib,Ic,Ie,Ig,Ih,Ii,D0,
 D1,D2,D3,D4,D5,D6,D7,D8,Ij,Ik,Il,Im,Io,Ip,Iq,Ir,Is,It,Iu,Iv,Iw,Ix,Iy,Iz,D9,Ea,Eb,Ec,Ed,
 Ee,Ef,Eg,Eh,I0,I1,I2,I3,I4,I5,I6,I7,I8,I9,Ja,Jb,Jc,Jd,Je,Jf,Ei,Ej,Ek,El,Em,En,Eo,Ep,Er,
 Jg,Jh,Ji,Jj,Jk,Jl,Jm,Jn,Jo,Jp,Jq,Jr,Js,Jt,Ju,Jv,Es,Et,Eu,Ev,Ew,Ex,Ey,Ez,E0,Jw,Jx,Jy,Jz,
 J0,J1,J2,J3,J4,J5,J6,J7,J8,J9,Ka,Kb,E1,E2,E3,E4,E5,E6,E7,E8,E9,Kc,Kd,Ke,Kf,Kg,Kh,Ki,Kj,
 Kk,Kl,Km,Kn,Ko,Kp,Kq,Kr,Fa,Fb,Fc,Fd,Fe,Ff,Fg,Fh,Fi,Ks,Kt,Ku,Kv,Kw,Kx,Ky,Kz,K0,K1,K2,K3,
 K4,K5,K6,K7,Fj,Fk,Fl,Fm,Fn,Fo,Fp,Fq,Fr,Fs,Ft,Fu,Fv,Fw,Fx,Fy,Fz,F0,F1,F2,F3,F4,F5,F6,F7,
 F8,F9,Ga,Gb,Gc,Gd,Ge,Gf,Gg,Gh,Gi,Gj,Gk,Gl,Gm,Gn,Gp,Gq,Gr,Gs,Gt,Gu,Gv,Gw,Gx,Gy,Gz,G0,G1,
 G2,G3,G4,G5,G6,G7,G8,G9,Ha,Hb,Hc,Hd,He,Hf,Hg,Hh,Hi,Hj,Hk],[]⟩ w := by
  conv => arg 2; whnf
  go_quiet ((go_at_call 105; exact Calls.quiet_of_same (lower_word _ _ _ _)))
  exact hQ _ _ _ _ _ _ _ _ _ _ _ _ _ _ _ _ _

set_option maxRecDepth 100000 in
set_option maxHeartbeats 2000000 in
theorem mixLow5 {Aa Ab Ac Ad Ae Af Ag Ah Lb Lf Le Ld Ai Aj Ak Al Am An Ao Ap Aq Ar As Au Av Aw Ax Ay Az A0 A1 A2 A3 A4 A5 A6 A7 A8 A9 Ba Bb Bc Bd Be Bf Bg Bh Bi Bj Bk Bl Bm Bn Bo Bp Bq Br Bs Bt Bu Bv Bw Bx Bz B0 B1 B2 B3 B4 B5 B6 B7 B8 B9 Ca Cb Cc Cd Ce Cf Cg Ch Ci Cj Ck Cl Cm Cn Co Cp Cq Cr Cs Ct Cu Cv Cw Cx Cy Cz C0 C1 C2 C3 C4 C5 C6 C7 C8 C9 Da Db Dc Dd De Df Dg Dh Di Dj Dk Dl Dm Dn Dp Dq Hl Hm Hn Ho Hp Hq Hr Hs Ht Hu Hv Hw Hx Hy Hz H0 Dr Ds Dt Du Dv Dw Dx Dy Dz H1 H2 H3 H4 H5 H6 H7 H8 H9 Ia Ib Ic Ie Ig Ih Ii D0 D1 D2 D3 D4 D5 D6 D7 D8 Ij Ik Il Im Io Ip Iq Ir Is It Iu Iv Iw Ix Iy Iz D9 Ea Eb Ec Ed Ee Ef Eg Eh I0 I1 I2 I3 I4 I5 I6 I7 I8 I9 Ja Jb Jc Jd Je Jf Ei Ej Ek El Em En Eo Ep Er Jg Jh Ji Jj Jk Jl Jm Jn Jo Jp Jq Jr Js Jt Ju Jv Es Et Eu Ev Ew Ex Ey Ez E0 Jw Jx Jy Jz J0 J1 J2 J3 J4 J5 J6 J7 J8 J9 Ka Kb E1 E2 E3 E4 E5 E6 E7 E8 E9 Kc Kd Ke Kf Kg Kh Ki Kj Kk Kl Km Kn Ko Kp Kq Kr Fa Fb Fc Fd Fe Ff Fg Fh Fi Ks Kt Ku Kv Kw Kx Ky Kz K0 K1 K2 K3 K4 K5 K6 K7 Fj Fk Fl Fm Fn Fo Fp Fq Fr Fs Ft Fu Fv Fw Fx Fy Fz F0 F1 F2 F3 F4 F5 F6 F7 F8 F9 Ga Gb Gc Gd Ge Gf Gg Gh Gi Gj Gk Gl Gm Gn Gp Gq Gr Gs Gt Gu Gv Gw Gx Gy Gz G0 G1 G2 G3 G4 G5 G6 G7 G8 G9 Ha Hb Hc Hd He Hf Hg Hh Hi Hj Hk : Value} (e f g h K V : BitVec 32) (BT BW k : Nat) {w : World} (hK : w.cell? ⟨BT, k + 5, none⟩ = some (.int .u32 (u K))) (hV : w.cell? ⟨BW, k + 5, none⟩ = some (.int .u32 (u V))) {Q : Exit → Act → World → Prop}
    (hQ : ∀ (Np Nq Nr Ns Nt Nu Nv Nw Nx Ny Nz N0 N1 N2 N3 N4 : Value) (m : Nat), Q .normal ⟨#[
 Aa,Ab,Ac,Ad,Ae,Af,Ag,Ah,(.int .u32 (u (f))),(.int .u32 (u (g))),.int .u32 (u (h + (Sha.sum1 e + Sha.ch e f g + K + V))),Lb,Lf,Le,Ld,(.int .u32 (u (e))),Ai,(.pointer (some ⟨BT,k,none⟩)),
 (.pointer (some ⟨BW,k,none⟩)),Aj,Ak,Al,Am,An,Ao,Ap,Aq,Ar,As,Au,Av,Aw,Ax,Ay,Az,A0,A1,A2,A3,A4,A5,A6,A7,A8,A9,Ba,Bb,
 Bc,Bd,Be,Bf,Bg,Bh,Bi,Bj,Bk,Bl,Bm,Bn,Bo,Bp,Bq,Br,Bs,Bt,Bu,Bv,Bw,Bx,Bz,B0,B1,B2,B3,B4,B5,B6,B7,B8,B9,
 Ca,Cb,Cc,Cd,Ce,Cf,Cg,Ch,Ci,Cj,Ck,Cl,Cm,Cn,Co,Cp,Cq,Cr,Cs,Ct,Cu,Cv,Cw,Cx,Cy,Cz,C0,C1,C2,C3,C4,
 C5,C6,C7,C8,C9,Da,Db,Dc,Dd,De,Df,Dg,Dh,Di,Dj,Dk,Dl,Dm,Dn,Dp,Dq,Hl,Hm,Hn,Ho,Hp,Hq,Hr,Hs,
 Ht,Hu,Hv,Hw,Hx,Hy,Hz,H0,Dr,Ds,Dt,Du,Dv,Dw,Dx,Dy,Dz,H1,H2,H3,H4,H5,H6,H7,H8,H9,Ia,Ib,Ic,
 Ie,Ig,Ih,Ii,D0,D1,D2,D3,D4,D5,D6,D7,D8,Ij,Ik,Il,Im,Io,Ip,Iq,Ir,Is,It,Iu,Iv,Iw,Ix,Iy,Iz,
 D9,Ea,Eb,Ec,Ed,Ee,Ef,Eg,Eh,I0,I1,I2,I3,I4,I5,I6,I7,I8,I9,Ja,Jb,Jc,Jd,Je,Jf,Ei,Ej,Ek,El,
 Em,En,Eo,Ep,Er,Jg,Jh,Ji,Jj,Jk,Jl,Jm,Jn,Jo,Jp,Jq,Jr,Js,Jt,Ju,Jv,Es,Et,Eu,Ev,Ew,Ex,Ey,Ez,
 E0,Np,Nq,Nr,Ns,Nt,Nu,Nv,Nw,Nx,Ny,Nz,N0,N1,N2,N3,N4,E1,E2,E3,E4,E5,E6,E7,E8,E9,Kc,Kd,Ke,
 Kf,Kg,Kh,Ki,Kj,Kk,Kl,Km,Kn,Ko,Kp,Kq,Kr,Fa,Fb,Fc,Fd,Fe,Ff,Fg,Fh,Fi,Ks,Kt,Ku,Kv,Kw,Kx,Ky,
 Kz,K0,K1,K2,K3,K4,K5,K6,K7,Fj,Fk,Fl,Fm,Fn,Fo,Fp,Fq,Fr,Fs,Ft,Fu,Fv,Fw,Fx,Fy,Fz,F0,F1,F2,
 F3,F4,F5,F6,F7,F8,F9,Ga,Gb,Gc,Gd,Ge,Gf,Gg,Gh,Gi,Gj,Gk,Gl,Gm,Gn,Gp,Gq,Gr,Gs,Gt,Gu,Gv,Gw,
 Gx,Gy,Gz,G0,G1,G2,G3,G4,G5,G6,G7,G8,G9,Ha,Hb,Hc,Hd,He,Hf,Hg,Hh,Hi,Hj,Hk],[]⟩ (w.drewN m)) :
    Code.wp Try.prog (mixReg 26) Q ⟨#[
 Aa,Ab,Ac,Ad,Ae,Af,Ag,Ah,(.int .u32 (u (f))),(.int .u32 (u (g))),(.int .u32 (u (h))),Lb,Lf,Le,Ld,(.int .u32 (u (e))),Ai,(.pointer (some ⟨BT,k,none⟩)),(.pointer (some ⟨BW,k,none⟩)),
 Aj,Ak,Al,Am,An,Ao,Ap,Aq,Ar,As,Au,Av,Aw,Ax,Ay,Az,A0,A1,A2,A3,A4,A5,A6,A7,A8,A9,Ba,Bb,Bc,Bd,Be,Bf,Bg,
 Bh,Bi,Bj,Bk,Bl,Bm,Bn,Bo,Bp,Bq,Br,Bs,Bt,Bu,Bv,Bw,Bx,Bz,B0,B1,B2,B3,B4,B5,B6,B7,B8,B9,Ca,Cb,Cc,Cd,Ce,
 Cf,Cg,Ch,Ci,Cj,Ck,Cl,Cm,Cn,Co,Cp,Cq,Cr,Cs,Ct,Cu,Cv,Cw,Cx,Cy,Cz,C0,C1,C2,C3,C4,C5,C6,C7,C8,C9,
 Da,Db,Dc,Dd,De,Df,Dg,Dh,Di,Dj,Dk,Dl,Dm,Dn,Dp,Dq,Hl,Hm,Hn,Ho,Hp,Hq,Hr,Hs,Ht,Hu,Hv,Hw,Hx,
 Hy,Hz,H0,Dr,Ds,Dt,Du,Dv,Dw,Dx,Dy,Dz,H1,H2,H3,H4,H5,H6,H7,H8,H9,Ia,Ib,Ic,Ie,Ig,Ih,Ii,D0,
 D1,D2,D3,D4,D5,D6,D7,D8,Ij,Ik,Il,Im,Io,Ip,Iq,Ir,Is,It,Iu,Iv,Iw,Ix,Iy,Iz,D9,Ea,Eb,Ec,Ed,
 Ee,Ef,Eg,Eh,I0,I1,I2,I3,I4,I5,I6,I7,I8,I9,Ja,Jb,Jc,Jd,Je,Jf,Ei,Ej,Ek,El,Em,En,Eo,Ep,Er,
 Jg,Jh,Ji,Jj,Jk,Jl,Jm,Jn,Jo,Jp,Jq,Jr,Js,Jt,Ju,Jv,Es,Et,Eu,Ev,Ew,Ex,Ey,Ez,E0,Jw,Jx,Jy,Jz,
 J0,J1,J2,J3,J4,J5,J6,J7,J8,J9,Ka,Kb,E1,E2,E3,E4,E5,E6,E7,E8,E9,Kc,Kd,Ke,Kf,Kg,Kh,Ki,Kj,
 Kk,Kl,Km,Kn,Ko,Kp,Kq,Kr,Fa,Fb,Fc,Fd,Fe,Ff,Fg,Fh,Fi,Ks,Kt,Ku,Kv,Kw,Kx,Ky,Kz,K0,K1,K2,K3,
 K4,K5,K6,K7,Fj,Fk,Fl,Fm,Fn,Fo,Fp,Fq,Fr,Fs,Ft,Fu,Fv,Fw,Fx,Fy,Fz,F0,F1,F2,F3,F4,F5,F6,F7,
 F8,F9,Ga,Gb,Gc,Gd,Ge,Gf,Gg,Gh,Gi,Gj,Gk,Gl,Gm,Gn,Gp,Gq,Gr,Gs,Gt,Gu,Gv,Gw,Gx,Gy,Gz,G0,G1,
 G2,G3,G4,G5,G6,G7,G8,G9,Ha,Hb,Hc,Hd,He,Hf,Hg,Hh,Hi,Hj,Hk],[]⟩ w := by
  conv => arg 2; whnf
  go_quiet ((go_at_call 105; exact Calls.quiet_of_same (lower_word _ _ _ _)))
  exact hQ _ _ _ _ _ _ _ _ _ _ _ _ _ _ _ _ _

set_option maxRecDepth 100000 in
set_option maxHeartbeats 2000000 in
theorem mixLow6 {Aa Ab Ac Ad Ae Af Ag Ah La Lb Lf Le Ai Aj Ak Al Am An Ao Ap Aq Ar As Au Av Aw Ax Ay Az A0 A1 A2 A3 A4 A5 A6 A7 A8 A9 Ba Bb Bc Bd Be Bf Bg Bh Bi Bj Bk Bl Bm Bn Bo Bp Bq Br Bs Bt Bu Bv Bw Bx Bz B0 B1 B2 B3 B4 B5 B6 B7 B8 B9 Ca Cb Cc Cd Ce Cf Cg Ch Ci Cj Ck Cl Cm Cn Co Cp Cq Cr Cs Ct Cu Cv Cw Cx Cy Cz C0 C1 C2 C3 C4 C5 C6 C7 C8 C9 Da Db Dc Dd De Df Dg Dh Di Dj Dk Dl Dm Dn Dp Dq Hl Hm Hn Ho Hp Hq Hr Hs Ht Hu Hv Hw Hx Hy Hz H0 Dr Ds Dt Du Dv Dw Dx Dy Dz H1 H2 H3 H4 H5 H6 H7 H8 H9 Ia Ib Ic Ie Ig Ih Ii D0 D1 D2 D3 D4 D5 D6 D7 D8 Ij Ik Il Im Io Ip Iq Ir Is It Iu Iv Iw Ix Iy Iz D9 Ea Eb Ec Ed Ee Ef Eg Eh I0 I1 I2 I3 I4 I5 I6 I7 I8 I9 Ja Jb Jc Jd Je Jf Ei Ej Ek El Em En Eo Ep Er Jg Jh Ji Jj Jk Jl Jm Jn Jo Jp Jq Jr Js Jt Ju Jv Es Et Eu Ev Ew Ex Ey Ez E0 Jw Jx Jy Jz J0 J1 J2 J3 J4 J5 J6 J7 J8 J9 Ka Kb E1 E2 E3 E4 E5 E6 E7 E8 E9 Kc Kd Ke Kf Kg Kh Ki Kj Kk Kl Km Kn Ko Kp Kq Kr Fa Fb Fc Fd Fe Ff Fg Fh Fi Ks Kt Ku Kv Kw Kx Ky Kz K0 K1 K2 K3 K4 K5 K6 K7 Fj Fk Fl Fm Fn Fo Fp Fq Fr Fs Ft Fu Fv Fw Fx Fy Fz F0 F1 F2 F3 F4 F5 F6 F7 F8 F9 Ga Gb Gc Gd Ge Gf Gg Gh Gi Gj Gk Gl Gm Gn Gp Gq Gr Gs Gt Gu Gv Gw Gx Gy Gz G0 G1 G2 G3 G4 G5 G6 G7 G8 G9 Ha Hb Hc Hd He Hf Hg Hh Hi Hj Hk : Value} (e f g h K V : BitVec 32) (BT BW k : Nat) {w : World} (hK : w.cell? ⟨BT, k + 6, none⟩ = some (.int .u32 (u K))) (hV : w.cell? ⟨BW, k + 6, none⟩ = some (.int .u32 (u V))) {Q : Exit → Act → World → Prop}
    (hQ : ∀ (N5 N6 N7 N8 N9 Oa Ob Oc Od Oe Of Og Oh Oi Oj Ok : Value) (m : Nat), Q .normal ⟨#[
 Aa,Ab,Ac,Ad,Ae,Af,Ag,Ah,(.int .u32 (u (g))),.int .u32 (u (h + (Sha.sum1 e + Sha.ch e f g + K + V))),La,Lb,Lf,Le,(.int .u32 (u (e))),(.int .u32 (u (f))),Ai,(.pointer (some ⟨BT,k,none⟩)),
 (.pointer (some ⟨BW,k,none⟩)),Aj,Ak,Al,Am,An,Ao,Ap,Aq,Ar,As,Au,Av,Aw,Ax,Ay,Az,A0,A1,A2,A3,A4,A5,A6,A7,A8,A9,Ba,Bb,
 Bc,Bd,Be,Bf,Bg,Bh,Bi,Bj,Bk,Bl,Bm,Bn,Bo,Bp,Bq,Br,Bs,Bt,Bu,Bv,Bw,Bx,Bz,B0,B1,B2,B3,B4,B5,B6,B7,B8,B9,
 Ca,Cb,Cc,Cd,Ce,Cf,Cg,Ch,Ci,Cj,Ck,Cl,Cm,Cn,Co,Cp,Cq,Cr,Cs,Ct,Cu,Cv,Cw,Cx,Cy,Cz,C0,C1,C2,C3,C4,
 C5,C6,C7,C8,C9,Da,Db,Dc,Dd,De,Df,Dg,Dh,Di,Dj,Dk,Dl,Dm,Dn,Dp,Dq,Hl,Hm,Hn,Ho,Hp,Hq,Hr,Hs,
 Ht,Hu,Hv,Hw,Hx,Hy,Hz,H0,Dr,Ds,Dt,Du,Dv,Dw,Dx,Dy,Dz,H1,H2,H3,H4,H5,H6,H7,H8,H9,Ia,Ib,Ic,
 Ie,Ig,Ih,Ii,D0,D1,D2,D3,D4,D5,D6,D7,D8,Ij,Ik,Il,Im,Io,Ip,Iq,Ir,Is,It,Iu,Iv,Iw,Ix,Iy,Iz,
 D9,Ea,Eb,Ec,Ed,Ee,Ef,Eg,Eh,I0,I1,I2,I3,I4,I5,I6,I7,I8,I9,Ja,Jb,Jc,Jd,Je,Jf,Ei,Ej,Ek,El,
 Em,En,Eo,Ep,Er,Jg,Jh,Ji,Jj,Jk,Jl,Jm,Jn,Jo,Jp,Jq,Jr,Js,Jt,Ju,Jv,Es,Et,Eu,Ev,Ew,Ex,Ey,Ez,
 E0,Jw,Jx,Jy,Jz,J0,J1,J2,J3,J4,J5,J6,J7,J8,J9,Ka,Kb,E1,E2,E3,E4,E5,E6,E7,E8,E9,N5,N6,N7,
 N8,N9,Oa,Ob,Oc,Od,Oe,Of,Og,Oh,Oi,Oj,Ok,Fa,Fb,Fc,Fd,Fe,Ff,Fg,Fh,Fi,Ks,Kt,Ku,Kv,Kw,Kx,Ky,
 Kz,K0,K1,K2,K3,K4,K5,K6,K7,Fj,Fk,Fl,Fm,Fn,Fo,Fp,Fq,Fr,Fs,Ft,Fu,Fv,Fw,Fx,Fy,Fz,F0,F1,F2,
 F3,F4,F5,F6,F7,F8,F9,Ga,Gb,Gc,Gd,Ge,Gf,Gg,Gh,Gi,Gj,Gk,Gl,Gm,Gn,Gp,Gq,Gr,Gs,Gt,Gu,Gv,Gw,
 Gx,Gy,Gz,G0,G1,G2,G3,G4,G5,G6,G7,G8,G9,Ha,Hb,Hc,Hd,He,Hf,Hg,Hh,Hi,Hj,Hk],[]⟩ (w.drewN m)) :
    Code.wp Try.prog (mixReg 28) Q ⟨#[
 Aa,Ab,Ac,Ad,Ae,Af,Ag,Ah,(.int .u32 (u (g))),(.int .u32 (u (h))),La,Lb,Lf,Le,(.int .u32 (u (e))),(.int .u32 (u (f))),Ai,(.pointer (some ⟨BT,k,none⟩)),(.pointer (some ⟨BW,k,none⟩)),
 Aj,Ak,Al,Am,An,Ao,Ap,Aq,Ar,As,Au,Av,Aw,Ax,Ay,Az,A0,A1,A2,A3,A4,A5,A6,A7,A8,A9,Ba,Bb,Bc,Bd,Be,Bf,Bg,
 Bh,Bi,Bj,Bk,Bl,Bm,Bn,Bo,Bp,Bq,Br,Bs,Bt,Bu,Bv,Bw,Bx,Bz,B0,B1,B2,B3,B4,B5,B6,B7,B8,B9,Ca,Cb,Cc,Cd,Ce,
 Cf,Cg,Ch,Ci,Cj,Ck,Cl,Cm,Cn,Co,Cp,Cq,Cr,Cs,Ct,Cu,Cv,Cw,Cx,Cy,Cz,C0,C1,C2,C3,C4,C5,C6,C7,C8,C9,
 Da,Db,Dc,Dd,De,Df,Dg,Dh,Di,Dj,Dk,Dl,Dm,Dn,Dp,Dq,Hl,Hm,Hn,Ho,Hp,Hq,Hr,Hs,Ht,Hu,Hv,Hw,Hx,
 Hy,Hz,H0,Dr,Ds,Dt,Du,Dv,Dw,Dx,Dy,Dz,H1,H2,H3,H4,H5,H6,H7,H8,H9,Ia,Ib,Ic,Ie,Ig,Ih,Ii,D0,
 D1,D2,D3,D4,D5,D6,D7,D8,Ij,Ik,Il,Im,Io,Ip,Iq,Ir,Is,It,Iu,Iv,Iw,Ix,Iy,Iz,D9,Ea,Eb,Ec,Ed,
 Ee,Ef,Eg,Eh,I0,I1,I2,I3,I4,I5,I6,I7,I8,I9,Ja,Jb,Jc,Jd,Je,Jf,Ei,Ej,Ek,El,Em,En,Eo,Ep,Er,
 Jg,Jh,Ji,Jj,Jk,Jl,Jm,Jn,Jo,Jp,Jq,Jr,Js,Jt,Ju,Jv,Es,Et,Eu,Ev,Ew,Ex,Ey,Ez,E0,Jw,Jx,Jy,Jz,
 J0,J1,J2,J3,J4,J5,J6,J7,J8,J9,Ka,Kb,E1,E2,E3,E4,E5,E6,E7,E8,E9,Kc,Kd,Ke,Kf,Kg,Kh,Ki,Kj,
 Kk,Kl,Km,Kn,Ko,Kp,Kq,Kr,Fa,Fb,Fc,Fd,Fe,Ff,Fg,Fh,Fi,Ks,Kt,Ku,Kv,Kw,Kx,Ky,Kz,K0,K1,K2,K3,
 K4,K5,K6,K7,Fj,Fk,Fl,Fm,Fn,Fo,Fp,Fq,Fr,Fs,Ft,Fu,Fv,Fw,Fx,Fy,Fz,F0,F1,F2,F3,F4,F5,F6,F7,
 F8,F9,Ga,Gb,Gc,Gd,Ge,Gf,Gg,Gh,Gi,Gj,Gk,Gl,Gm,Gn,Gp,Gq,Gr,Gs,Gt,Gu,Gv,Gw,Gx,Gy,Gz,G0,G1,
 G2,G3,G4,G5,G6,G7,G8,G9,Ha,Hb,Hc,Hd,He,Hf,Hg,Hh,Hi,Hj,Hk],[]⟩ w := by
  conv => arg 2; whnf
  go_quiet ((go_at_call 105; exact Calls.quiet_of_same (lower_word _ _ _ _)))
  exact hQ _ _ _ _ _ _ _ _ _ _ _ _ _ _ _ _ _

set_option maxRecDepth 100000 in
set_option maxHeartbeats 2000000 in
theorem mixLow7 {Aa Ab Ac Ad Ae Af Ag Ah K9 La Lb Lf Ai Aj Ak Al Am An Ao Ap Aq Ar As Au Av Aw Ax Ay Az A0 A1 A2 A3 A4 A5 A6 A7 A8 A9 Ba Bb Bc Bd Be Bf Bg Bh Bi Bj Bk Bl Bm Bn Bo Bp Bq Br Bs Bt Bu Bv Bw Bx Bz B0 B1 B2 B3 B4 B5 B6 B7 B8 B9 Ca Cb Cc Cd Ce Cf Cg Ch Ci Cj Ck Cl Cm Cn Co Cp Cq Cr Cs Ct Cu Cv Cw Cx Cy Cz C0 C1 C2 C3 C4 C5 C6 C7 C8 C9 Da Db Dc Dd De Df Dg Dh Di Dj Dk Dl Dm Dn Dp Dq Hl Hm Hn Ho Hp Hq Hr Hs Ht Hu Hv Hw Hx Hy Hz H0 Dr Ds Dt Du Dv Dw Dx Dy Dz H1 H2 H3 H4 H5 H6 H7 H8 H9 Ia Ib Ic Ie Ig Ih Ii D0 D1 D2 D3 D4 D5 D6 D7 D8 Ij Ik Il Im Io Ip Iq Ir Is It Iu Iv Iw Ix Iy Iz D9 Ea Eb Ec Ed Ee Ef Eg Eh I0 I1 I2 I3 I4 I5 I6 I7 I8 I9 Ja Jb Jc Jd Je Jf Ei Ej Ek El Em En Eo Ep Er Jg Jh Ji Jj Jk Jl Jm Jn Jo Jp Jq Jr Js Jt Ju Jv Es Et Eu Ev Ew Ex Ey Ez E0 Jw Jx Jy Jz J0 J1 J2 J3 J4 J5 J6 J7 J8 J9 Ka Kb E1 E2 E3 E4 E5 E6 E7 E8 E9 Kc Kd Ke Kf Kg Kh Ki Kj Kk Kl Km Kn Ko Kp Kq Kr Fa Fb Fc Fd Fe Ff Fg Fh Fi Ks Kt Ku Kv Kw Kx Ky Kz K0 K1 K2 K3 K4 K5 K6 K7 Fj Fk Fl Fm Fn Fo Fp Fq Fr Fs Ft Fu Fv Fw Fx Fy Fz F0 F1 F2 F3 F4 F5 F6 F7 F8 F9 Ga Gb Gc Gd Ge Gf Gg Gh Gi Gj Gk Gl Gm Gn Gp Gq Gr Gs Gt Gu Gv Gw Gx Gy Gz G0 G1 G2 G3 G4 G5 G6 G7 G8 G9 Ha Hb Hc Hd He Hf Hg Hh Hi Hj Hk : Value} (e f g h K V : BitVec 32) (BT BW k : Nat) {w : World} (hK : w.cell? ⟨BT, k + 7, none⟩ = some (.int .u32 (u K))) (hV : w.cell? ⟨BW, k + 7, none⟩ = some (.int .u32 (u V))) {Q : Exit → Act → World → Prop}
    (hQ : ∀ (Ol Om On Oo Op Oq Os Ot Ou Ov Ow Ox Oy Oz O0 O1 : Value) (m : Nat), Q .normal ⟨#[
 Aa,Ab,Ac,Ad,Ae,Af,Ag,Ah,.int .u32 (u (h + (Sha.sum1 e + Sha.ch e f g + K + V))),K9,La,Lb,Lf,(.int .u32 (u (e))),(.int .u32 (u (f))),(.int .u32 (u (g))),Ai,(.pointer (some ⟨BT,k,none⟩)),
 (.pointer (some ⟨BW,k,none⟩)),Aj,Ak,Al,Am,An,Ao,Ap,Aq,Ar,As,Au,Av,Aw,Ax,Ay,Az,A0,A1,A2,A3,A4,A5,A6,A7,A8,A9,Ba,Bb,
 Bc,Bd,Be,Bf,Bg,Bh,Bi,Bj,Bk,Bl,Bm,Bn,Bo,Bp,Bq,Br,Bs,Bt,Bu,Bv,Bw,Bx,Bz,B0,B1,B2,B3,B4,B5,B6,B7,B8,B9,
 Ca,Cb,Cc,Cd,Ce,Cf,Cg,Ch,Ci,Cj,Ck,Cl,Cm,Cn,Co,Cp,Cq,Cr,Cs,Ct,Cu,Cv,Cw,Cx,Cy,Cz,C0,C1,C2,C3,C4,
 C5,C6,C7,C8,C9,Da,Db,Dc,Dd,De,Df,Dg,Dh,Di,Dj,Dk,Dl,Dm,Dn,Dp,Dq,Hl,Hm,Hn,Ho,Hp,Hq,Hr,Hs,
 Ht,Hu,Hv,Hw,Hx,Hy,Hz,H0,Dr,Ds,Dt,Du,Dv,Dw,Dx,Dy,Dz,H1,H2,H3,H4,H5,H6,H7,H8,H9,Ia,Ib,Ic,
 Ie,Ig,Ih,Ii,D0,D1,D2,D3,D4,D5,D6,D7,D8,Ij,Ik,Il,Im,Io,Ip,Iq,Ir,Is,It,Iu,Iv,Iw,Ix,Iy,Iz,
 D9,Ea,Eb,Ec,Ed,Ee,Ef,Eg,Eh,I0,I1,I2,I3,I4,I5,I6,I7,I8,I9,Ja,Jb,Jc,Jd,Je,Jf,Ei,Ej,Ek,El,
 Em,En,Eo,Ep,Er,Jg,Jh,Ji,Jj,Jk,Jl,Jm,Jn,Jo,Jp,Jq,Jr,Js,Jt,Ju,Jv,Es,Et,Eu,Ev,Ew,Ex,Ey,Ez,
 E0,Jw,Jx,Jy,Jz,J0,J1,J2,J3,J4,J5,J6,J7,J8,J9,Ka,Kb,E1,E2,E3,E4,E5,E6,E7,E8,E9,Kc,Kd,Ke,
 Kf,Kg,Kh,Ki,Kj,Kk,Kl,Km,Kn,Ko,Kp,Kq,Kr,Fa,Fb,Fc,Fd,Fe,Ff,Fg,Fh,Fi,Ol,Om,On,Oo,Op,Oq,Os,
 Ot,Ou,Ov,Ow,Ox,Oy,Oz,O0,O1,Fj,Fk,Fl,Fm,Fn,Fo,Fp,Fq,Fr,Fs,Ft,Fu,Fv,Fw,Fx,Fy,Fz,F0,F1,F2,
 F3,F4,F5,F6,F7,F8,F9,Ga,Gb,Gc,Gd,Ge,Gf,Gg,Gh,Gi,Gj,Gk,Gl,Gm,Gn,Gp,Gq,Gr,Gs,Gt,Gu,Gv,Gw,
 Gx,Gy,Gz,G0,G1,G2,G3,G4,G5,G6,G7,G8,G9,Ha,Hb,Hc,Hd,He,Hf,Hg,Hh,Hi,Hj,Hk],[]⟩ (w.drewN m)) :
    Code.wp Try.prog (mixReg 30) Q ⟨#[
 Aa,Ab,Ac,Ad,Ae,Af,Ag,Ah,(.int .u32 (u (h))),K9,La,Lb,Lf,(.int .u32 (u (e))),(.int .u32 (u (f))),(.int .u32 (u (g))),Ai,(.pointer (some ⟨BT,k,none⟩)),(.pointer (some ⟨BW,k,none⟩)),
 Aj,Ak,Al,Am,An,Ao,Ap,Aq,Ar,As,Au,Av,Aw,Ax,Ay,Az,A0,A1,A2,A3,A4,A5,A6,A7,A8,A9,Ba,Bb,Bc,Bd,Be,Bf,Bg,
 Bh,Bi,Bj,Bk,Bl,Bm,Bn,Bo,Bp,Bq,Br,Bs,Bt,Bu,Bv,Bw,Bx,Bz,B0,B1,B2,B3,B4,B5,B6,B7,B8,B9,Ca,Cb,Cc,Cd,Ce,
 Cf,Cg,Ch,Ci,Cj,Ck,Cl,Cm,Cn,Co,Cp,Cq,Cr,Cs,Ct,Cu,Cv,Cw,Cx,Cy,Cz,C0,C1,C2,C3,C4,C5,C6,C7,C8,C9,
 Da,Db,Dc,Dd,De,Df,Dg,Dh,Di,Dj,Dk,Dl,Dm,Dn,Dp,Dq,Hl,Hm,Hn,Ho,Hp,Hq,Hr,Hs,Ht,Hu,Hv,Hw,Hx,
 Hy,Hz,H0,Dr,Ds,Dt,Du,Dv,Dw,Dx,Dy,Dz,H1,H2,H3,H4,H5,H6,H7,H8,H9,Ia,Ib,Ic,Ie,Ig,Ih,Ii,D0,
 D1,D2,D3,D4,D5,D6,D7,D8,Ij,Ik,Il,Im,Io,Ip,Iq,Ir,Is,It,Iu,Iv,Iw,Ix,Iy,Iz,D9,Ea,Eb,Ec,Ed,
 Ee,Ef,Eg,Eh,I0,I1,I2,I3,I4,I5,I6,I7,I8,I9,Ja,Jb,Jc,Jd,Je,Jf,Ei,Ej,Ek,El,Em,En,Eo,Ep,Er,
 Jg,Jh,Ji,Jj,Jk,Jl,Jm,Jn,Jo,Jp,Jq,Jr,Js,Jt,Ju,Jv,Es,Et,Eu,Ev,Ew,Ex,Ey,Ez,E0,Jw,Jx,Jy,Jz,
 J0,J1,J2,J3,J4,J5,J6,J7,J8,J9,Ka,Kb,E1,E2,E3,E4,E5,E6,E7,E8,E9,Kc,Kd,Ke,Kf,Kg,Kh,Ki,Kj,
 Kk,Kl,Km,Kn,Ko,Kp,Kq,Kr,Fa,Fb,Fc,Fd,Fe,Ff,Fg,Fh,Fi,Ks,Kt,Ku,Kv,Kw,Kx,Ky,Kz,K0,K1,K2,K3,
 K4,K5,K6,K7,Fj,Fk,Fl,Fm,Fn,Fo,Fp,Fq,Fr,Fs,Ft,Fu,Fv,Fw,Fx,Fy,Fz,F0,F1,F2,F3,F4,F5,F6,F7,
 F8,F9,Ga,Gb,Gc,Gd,Ge,Gf,Gg,Gh,Gi,Gj,Gk,Gl,Gm,Gn,Gp,Gq,Gr,Gs,Gt,Gu,Gv,Gw,Gx,Gy,Gz,G0,G1,
 G2,G3,G4,G5,G6,G7,G8,G9,Ha,Hb,Hc,Hd,He,Hf,Hg,Hh,Hi,Hj,Hk],[]⟩ w := by
  conv => arg 2; whnf
  go_quiet ((go_at_call 105; exact Calls.quiet_of_same (lower_word _ _ _ _)))
  exact hQ _ _ _ _ _ _ _ _ _ _ _ _ _ _ _ _ _

set_option maxRecDepth 100000 in
theorem mixLow0A {T : Array Value} {l0 l1 l4 l5 l6 l7 l8 l9 l10 l11 l16 l20 : Value} (e f g h K V : BitVec 32) (BT BW k : Nat) {w : World} (hK : w.cell? ⟨BT, k, none⟩ = some (.int .u32 (u K))) (hV : w.cell? ⟨BW, k, none⟩ = some (.int .u32 (u V))) {Q : Exit → Act → World → Prop} (hL : mixLive T l0 l1 l4 l5 l6 l7 l8 l9 l10 l11 (.int .u32 (u (e))) (.int .u32 (u (f))) (.int .u32 (u (g))) (.int .u32 (u (h))) l16 (.pointer (some ⟨BT, k, none⟩)) (.pointer (some ⟨BW, k, none⟩)) l20)
    (hQ : ∀ (T' : Array Value) (m : Nat), mixLive T' l0 l1 l4 l5 l6 l7 l8 l9 l10 l11 (.int .u32 (u (e))) (.int .u32 (u (f))) (.int .u32 (u (g))) (.int .u32 (u (h + (Sha.sum1 e + Sha.ch e f g + K + V)))) l16 (.pointer (some ⟨BT, k, none⟩)) (.pointer (some ⟨BW, k, none⟩)) l20 → Q .normal ⟨T', []⟩ (w.drewN m)) : Code.wp Try.prog (mixReg 16) Q ⟨T, []⟩ w := by
  rw [mixOut T hL.size]
  rw [hL.s0, hL.s1, hL.s4, hL.s5, hL.s6, hL.s7, hL.s8, hL.s9, hL.s10, hL.s11, hL.s12, hL.s13, hL.s14, hL.s15, hL.s16, hL.s17, hL.s18, hL.s20]
  refine mixLow0 e f g h K V BT BW k hK hV ?_
  intros
  exact hQ _ _ ⟨rfl, rfl, rfl, rfl, rfl, rfl, rfl, rfl, rfl, rfl, rfl, rfl, rfl, rfl, rfl, rfl, rfl, rfl, rfl⟩

set_option maxRecDepth 100000 in
theorem mixLow1A {T : Array Value} {l0 l1 l4 l5 l6 l7 l8 l9 l10 l15 l16 l20 : Value} (e f g h K V : BitVec 32) (BT BW k : Nat) {w : World} (hK : w.cell? ⟨BT, k + 1, none⟩ = some (.int .u32 (u K))) (hV : w.cell? ⟨BW, k + 1, none⟩ = some (.int .u32 (u V))) {Q : Exit → Act → World → Prop} (hL : mixLive T l0 l1 l4 l5 l6 l7 l8 l9 l10 (.int .u32 (u (e))) (.int .u32 (u (f))) (.int .u32 (u (g))) (.int .u32 (u (h))) l15 l16 (.pointer (some ⟨BT, k, none⟩)) (.pointer (some ⟨BW, k, none⟩)) l20)
    (hQ : ∀ (T' : Array Value) (m : Nat), mixLive T' l0 l1 l4 l5 l6 l7 l8 l9 l10 (.int .u32 (u (e))) (.int .u32 (u (f))) (.int .u32 (u (g))) (.int .u32 (u (h + (Sha.sum1 e + Sha.ch e f g + K + V)))) l15 l16 (.pointer (some ⟨BT, k, none⟩)) (.pointer (some ⟨BW, k, none⟩)) l20 → Q .normal ⟨T', []⟩ (w.drewN m)) : Code.wp Try.prog (mixReg 18) Q ⟨T, []⟩ w := by
  rw [mixOut T hL.size]
  rw [hL.s0, hL.s1, hL.s4, hL.s5, hL.s6, hL.s7, hL.s8, hL.s9, hL.s10, hL.s11, hL.s12, hL.s13, hL.s14, hL.s15, hL.s16, hL.s17, hL.s18, hL.s20]
  refine mixLow1 e f g h K V BT BW k hK hV ?_
  intros
  exact hQ _ _ ⟨rfl, rfl, rfl, rfl, rfl, rfl, rfl, rfl, rfl, rfl, rfl, rfl, rfl, rfl, rfl, rfl, rfl, rfl, rfl⟩

set_option maxRecDepth 100000 in
theorem mixLow2A {T : Array Value} {l0 l1 l4 l5 l6 l7 l8 l9 l14 l15 l16 l20 : Value} (e f g h K V : BitVec 32) (BT BW k : Nat) {w : World} (hK : w.cell? ⟨BT, k + 2, none⟩ = some (.int .u32 (u K))) (hV : w.cell? ⟨BW, k + 2, none⟩ = some (.int .u32 (u V))) {Q : Exit → Act → World → Prop} (hL : mixLive T l0 l1 l4 l5 l6 l7 l8 l9 (.int .u32 (u (e))) (.int .u32 (u (f))) (.int .u32 (u (g))) (.int .u32 (u (h))) l14 l15 l16 (.pointer (some ⟨BT, k, none⟩)) (.pointer (some ⟨BW, k, none⟩)) l20)
    (hQ : ∀ (T' : Array Value) (m : Nat), mixLive T' l0 l1 l4 l5 l6 l7 l8 l9 (.int .u32 (u (e))) (.int .u32 (u (f))) (.int .u32 (u (g))) (.int .u32 (u (h + (Sha.sum1 e + Sha.ch e f g + K + V)))) l14 l15 l16 (.pointer (some ⟨BT, k, none⟩)) (.pointer (some ⟨BW, k, none⟩)) l20 → Q .normal ⟨T', []⟩ (w.drewN m)) : Code.wp Try.prog (mixReg 20) Q ⟨T, []⟩ w := by
  rw [mixOut T hL.size]
  rw [hL.s0, hL.s1, hL.s4, hL.s5, hL.s6, hL.s7, hL.s8, hL.s9, hL.s10, hL.s11, hL.s12, hL.s13, hL.s14, hL.s15, hL.s16, hL.s17, hL.s18, hL.s20]
  refine mixLow2 e f g h K V BT BW k hK hV ?_
  intros
  exact hQ _ _ ⟨rfl, rfl, rfl, rfl, rfl, rfl, rfl, rfl, rfl, rfl, rfl, rfl, rfl, rfl, rfl, rfl, rfl, rfl, rfl⟩

set_option maxRecDepth 100000 in
theorem mixLow3A {T : Array Value} {l0 l1 l4 l5 l6 l7 l8 l13 l14 l15 l16 l20 : Value} (e f g h K V : BitVec 32) (BT BW k : Nat) {w : World} (hK : w.cell? ⟨BT, k + 3, none⟩ = some (.int .u32 (u K))) (hV : w.cell? ⟨BW, k + 3, none⟩ = some (.int .u32 (u V))) {Q : Exit → Act → World → Prop} (hL : mixLive T l0 l1 l4 l5 l6 l7 l8 (.int .u32 (u (e))) (.int .u32 (u (f))) (.int .u32 (u (g))) (.int .u32 (u (h))) l13 l14 l15 l16 (.pointer (some ⟨BT, k, none⟩)) (.pointer (some ⟨BW, k, none⟩)) l20)
    (hQ : ∀ (T' : Array Value) (m : Nat), mixLive T' l0 l1 l4 l5 l6 l7 l8 (.int .u32 (u (e))) (.int .u32 (u (f))) (.int .u32 (u (g))) (.int .u32 (u (h + (Sha.sum1 e + Sha.ch e f g + K + V)))) l13 l14 l15 l16 (.pointer (some ⟨BT, k, none⟩)) (.pointer (some ⟨BW, k, none⟩)) l20 → Q .normal ⟨T', []⟩ (w.drewN m)) : Code.wp Try.prog (mixReg 22) Q ⟨T, []⟩ w := by
  rw [mixOut T hL.size]
  rw [hL.s0, hL.s1, hL.s4, hL.s5, hL.s6, hL.s7, hL.s8, hL.s9, hL.s10, hL.s11, hL.s12, hL.s13, hL.s14, hL.s15, hL.s16, hL.s17, hL.s18, hL.s20]
  refine mixLow3 e f g h K V BT BW k hK hV ?_
  intros
  exact hQ _ _ ⟨rfl, rfl, rfl, rfl, rfl, rfl, rfl, rfl, rfl, rfl, rfl, rfl, rfl, rfl, rfl, rfl, rfl, rfl, rfl⟩

set_option maxRecDepth 100000 in
theorem mixLow4A {T : Array Value} {l0 l1 l4 l5 l6 l7 l12 l13 l14 l15 l16 l20 : Value} (e f g h K V : BitVec 32) (BT BW k : Nat) {w : World} (hK : w.cell? ⟨BT, k + 4, none⟩ = some (.int .u32 (u K))) (hV : w.cell? ⟨BW, k + 4, none⟩ = some (.int .u32 (u V))) {Q : Exit → Act → World → Prop} (hL : mixLive T l0 l1 l4 l5 l6 l7 (.int .u32 (u (e))) (.int .u32 (u (f))) (.int .u32 (u (g))) (.int .u32 (u (h))) l12 l13 l14 l15 l16 (.pointer (some ⟨BT, k, none⟩)) (.pointer (some ⟨BW, k, none⟩)) l20)
    (hQ : ∀ (T' : Array Value) (m : Nat), mixLive T' l0 l1 l4 l5 l6 l7 (.int .u32 (u (e))) (.int .u32 (u (f))) (.int .u32 (u (g))) (.int .u32 (u (h + (Sha.sum1 e + Sha.ch e f g + K + V)))) l12 l13 l14 l15 l16 (.pointer (some ⟨BT, k, none⟩)) (.pointer (some ⟨BW, k, none⟩)) l20 → Q .normal ⟨T', []⟩ (w.drewN m)) : Code.wp Try.prog (mixReg 24) Q ⟨T, []⟩ w := by
  rw [mixOut T hL.size]
  rw [hL.s0, hL.s1, hL.s4, hL.s5, hL.s6, hL.s7, hL.s8, hL.s9, hL.s10, hL.s11, hL.s12, hL.s13, hL.s14, hL.s15, hL.s16, hL.s17, hL.s18, hL.s20]
  refine mixLow4 e f g h K V BT BW k hK hV ?_
  intros
  exact hQ _ _ ⟨rfl, rfl, rfl, rfl, rfl, rfl, rfl, rfl, rfl, rfl, rfl, rfl, rfl, rfl, rfl, rfl, rfl, rfl, rfl⟩

set_option maxRecDepth 100000 in
theorem mixLow5A {T : Array Value} {l0 l1 l4 l5 l6 l7 l11 l12 l13 l14 l16 l20 : Value} (e f g h K V : BitVec 32) (BT BW k : Nat) {w : World} (hK : w.cell? ⟨BT, k + 5, none⟩ = some (.int .u32 (u K))) (hV : w.cell? ⟨BW, k + 5, none⟩ = some (.int .u32 (u V))) {Q : Exit → Act → World → Prop} (hL : mixLive T l0 l1 l4 l5 l6 l7 (.int .u32 (u (f))) (.int .u32 (u (g))) (.int .u32 (u (h))) l11 l12 l13 l14 (.int .u32 (u (e))) l16 (.pointer (some ⟨BT, k, none⟩)) (.pointer (some ⟨BW, k, none⟩)) l20)
    (hQ : ∀ (T' : Array Value) (m : Nat), mixLive T' l0 l1 l4 l5 l6 l7 (.int .u32 (u (f))) (.int .u32 (u (g))) (.int .u32 (u (h + (Sha.sum1 e + Sha.ch e f g + K + V)))) l11 l12 l13 l14 (.int .u32 (u (e))) l16 (.pointer (some ⟨BT, k, none⟩)) (.pointer (some ⟨BW, k, none⟩)) l20 → Q .normal ⟨T', []⟩ (w.drewN m)) : Code.wp Try.prog (mixReg 26) Q ⟨T, []⟩ w := by
  rw [mixOut T hL.size]
  rw [hL.s0, hL.s1, hL.s4, hL.s5, hL.s6, hL.s7, hL.s8, hL.s9, hL.s10, hL.s11, hL.s12, hL.s13, hL.s14, hL.s15, hL.s16, hL.s17, hL.s18, hL.s20]
  refine mixLow5 e f g h K V BT BW k hK hV ?_
  intros
  exact hQ _ _ ⟨rfl, rfl, rfl, rfl, rfl, rfl, rfl, rfl, rfl, rfl, rfl, rfl, rfl, rfl, rfl, rfl, rfl, rfl, rfl⟩

set_option maxRecDepth 100000 in
theorem mixLow6A {T : Array Value} {l0 l1 l4 l5 l6 l7 l10 l11 l12 l13 l16 l20 : Value} (e f g h K V : BitVec 32) (BT BW k : Nat) {w : World} (hK : w.cell? ⟨BT, k + 6, none⟩ = some (.int .u32 (u K))) (hV : w.cell? ⟨BW, k + 6, none⟩ = some (.int .u32 (u V))) {Q : Exit → Act → World → Prop} (hL : mixLive T l0 l1 l4 l5 l6 l7 (.int .u32 (u (g))) (.int .u32 (u (h))) l10 l11 l12 l13 (.int .u32 (u (e))) (.int .u32 (u (f))) l16 (.pointer (some ⟨BT, k, none⟩)) (.pointer (some ⟨BW, k, none⟩)) l20)
    (hQ : ∀ (T' : Array Value) (m : Nat), mixLive T' l0 l1 l4 l5 l6 l7 (.int .u32 (u (g))) (.int .u32 (u (h + (Sha.sum1 e + Sha.ch e f g + K + V)))) l10 l11 l12 l13 (.int .u32 (u (e))) (.int .u32 (u (f))) l16 (.pointer (some ⟨BT, k, none⟩)) (.pointer (some ⟨BW, k, none⟩)) l20 → Q .normal ⟨T', []⟩ (w.drewN m)) : Code.wp Try.prog (mixReg 28) Q ⟨T, []⟩ w := by
  rw [mixOut T hL.size]
  rw [hL.s0, hL.s1, hL.s4, hL.s5, hL.s6, hL.s7, hL.s8, hL.s9, hL.s10, hL.s11, hL.s12, hL.s13, hL.s14, hL.s15, hL.s16, hL.s17, hL.s18, hL.s20]
  refine mixLow6 e f g h K V BT BW k hK hV ?_
  intros
  exact hQ _ _ ⟨rfl, rfl, rfl, rfl, rfl, rfl, rfl, rfl, rfl, rfl, rfl, rfl, rfl, rfl, rfl, rfl, rfl, rfl, rfl⟩

set_option maxRecDepth 100000 in
theorem mixLow7A {T : Array Value} {l0 l1 l4 l5 l6 l7 l9 l10 l11 l12 l16 l20 : Value} (e f g h K V : BitVec 32) (BT BW k : Nat) {w : World} (hK : w.cell? ⟨BT, k + 7, none⟩ = some (.int .u32 (u K))) (hV : w.cell? ⟨BW, k + 7, none⟩ = some (.int .u32 (u V))) {Q : Exit → Act → World → Prop} (hL : mixLive T l0 l1 l4 l5 l6 l7 (.int .u32 (u (h))) l9 l10 l11 l12 (.int .u32 (u (e))) (.int .u32 (u (f))) (.int .u32 (u (g))) l16 (.pointer (some ⟨BT, k, none⟩)) (.pointer (some ⟨BW, k, none⟩)) l20)
    (hQ : ∀ (T' : Array Value) (m : Nat), mixLive T' l0 l1 l4 l5 l6 l7 (.int .u32 (u (h + (Sha.sum1 e + Sha.ch e f g + K + V)))) l9 l10 l11 l12 (.int .u32 (u (e))) (.int .u32 (u (f))) (.int .u32 (u (g))) l16 (.pointer (some ⟨BT, k, none⟩)) (.pointer (some ⟨BW, k, none⟩)) l20 → Q .normal ⟨T', []⟩ (w.drewN m)) : Code.wp Try.prog (mixReg 30) Q ⟨T, []⟩ w := by
  rw [mixOut T hL.size]
  rw [hL.s0, hL.s1, hL.s4, hL.s5, hL.s6, hL.s7, hL.s8, hL.s9, hL.s10, hL.s11, hL.s12, hL.s13, hL.s14, hL.s15, hL.s16, hL.s17, hL.s18, hL.s20]
  refine mixLow7 e f g h K V BT BW k hK hV ?_
  intros
  exact hQ _ _ ⟨rfl, rfl, rfl, rfl, rfl, rfl, rfl, rfl, rfl, rfl, rfl, rfl, rfl, rfl, rfl, rfl, rfl, rfl, rfl⟩

end Go.Proofs.Ytpjfhbmegabafaa
