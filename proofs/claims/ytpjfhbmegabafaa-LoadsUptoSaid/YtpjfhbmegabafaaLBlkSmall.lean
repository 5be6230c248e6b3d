/- Regions of the reference's block256, one by one. Made by tools/regions.py. -/
import Derived.Test.YtpjfhbmegabafaaLBlkBase
namespace Go.Proofs.Ytpjfhbmegabafaa
open Go.RowKit
attribute [local go_sem] u_add u_wrap_add u_or u_and u_xor u_shr3 u_shr10

set_option maxRecDepth 100000 in
set_option maxHeartbeats 2000000 in
theorem blkBegin1 {Aa Ab Ac Ad Ae Af Ag F6 F7 Ah Ai Aj F8 Ak Al Am An F9 Ao Fq Fr Fs Ft Ap Aq Ar As Au Av Aw Ax Ay Az A0 A1 A2 A3 A4 A5 A6 A7 A8 A9 Ba Bb Bc Bd Be Bf Bg Bh Bi Bj Bk Fu Fv Fw Fx Bl Bm Bn Bo Bp Bq Br Bs Bt Bu Bv Bw Bx Bz B0 B1 B2 B3 B4 B5 B6 B7 B8 B9 Ca Cb Cc Cd Ce Cf Cg Ch Ci Cj Ck Cl Cm Cn Co Cp Cq Cr Cs Ct Cu Cv Cw Cx Cy Cz Fy Fz F0 F1 C0 C1 C2 C3 C4 C5 C6 C7 C8 C9 Da Db Dc Dd De Df Dg Dh Di Dj Dk Dl Dm Dn Dp Dq Dr Ds Dt Du Dv Dw Dx Dy Dz D0 D1 D2 D3 D4 D5 D6 D7 D8 D9 Ea Eb Ec Ed Ee Ef Eg Eh Ei Ej Ek El Em En Eo Ep Er Es Et Eu Ev Ew Ex Ey Ez E0 E1 E2 E3 E4 E5 E6 E7 E8 E9 Fa Fb Fc Fd Fe Ff F2 F3 F4 F5 Fg Fh Fi Fj Fk Fl Fm Fn Fo Fp : Value} {w : World} {Q : Exit → Act → World → Prop}
    (hQ : Q .normal ⟨#[
 Aa,Ab,Ac,Ad,Ae,Af,Ag,.int .i64 (0),F7,Ah,Ai,Aj,F8,Ak,Al,Am,An,F9,Ao,Fq,Fr,Fs,Ft,Ap,Aq,Ar,As,Au,Av,Aw,Ax,Ay,Az,
 A0,A1,A2,A3,A4,A5,A6,A7,A8,A9,Ba,Bb,Bc,Bd,Be,Bf,Bg,Bh,Bi,Bj,Bk,Fu,Fv,Fw,Fx,Bl,Bm,Bn,Bo,Bp,Bq,Br,Bs,
 Bt,Bu,Bv,Bw,Bx,Bz,B0,B1,B2,B3,B4,B5,B6,B7,B8,B9,Ca,Cb,Cc,Cd,Ce,Cf,Cg,Ch,Ci,Cj,Ck,Cl,Cm,Cn,Co,Cp,Cq,
 Cr,Cs,Ct,Cu,Cv,Cw,Cx,Cy,Cz,Fy,Fz,F0,F1,C0,C1,C2,C3,C4,C5,C6,C7,C8,C9,Da,Db,Dc,Dd,De,Df,
 Dg,Dh,Di,Dj,Dk,Dl,Dm,Dn,Dp,Dq,Dr,Ds,Dt,Du,Dv,Dw,Dx,Dy,Dz,D0,D1,D2,D3,D4,D5,D6,D7,D8,D9,
 Ea,Eb,Ec,Ed,Ee,Ef,Eg,Eh,Ei,Ej,Ek,El,Em,En,Eo,Ep,Er,Es,Et,Eu,Ev,Ew,Ex,Ey,Ez,E0,E1,E2,E3,
 E4,E5,E6,E7,E8,E9,Fa,Fb,Fc,Fd,Fe,Ff,F2,F3,F4,F5,Fg,Fh,Fi,Fj,Fk,Fl,Fm,Fn,Fo,Fp],[]⟩ (w)) :
    Code.wp Try.prog (blkReg 3) Q ⟨#[
 Aa,Ab,Ac,Ad,Ae,Af,Ag,F6,F7,Ah,Ai,Aj,F8,Ak,Al,Am,An,F9,Ao,Fq,Fr,Fs,Ft,Ap,Aq,Ar,As,Au,Av,Aw,Ax,Ay,Az,A0,A1,
 A2,A3,A4,A5,A6,A7,A8,A9,Ba,Bb,Bc,Bd,Be,Bf,Bg,Bh,Bi,Bj,Bk,Fu,Fv,Fw,Fx,Bl,Bm,Bn,Bo,Bp,Bq,Br,Bs,Bt,Bu,
 Bv,Bw,Bx,Bz,B0,B1,B2,B3,B4,B5,B6,B7,B8,B9,Ca,Cb,Cc,Cd,Ce,Cf,Cg,Ch,Ci,Cj,Ck,Cl,Cm,Cn,Co,Cp,Cq,Cr,Cs,
 Ct,Cu,Cv,Cw,Cx,Cy,Cz,Fy,Fz,F0,F1,C0,C1,C2,C3,C4,C5,C6,C7,C8,C9,Da,Db,Dc,Dd,De,Df,Dg,Dh,
 Di,Dj,Dk,Dl,Dm,Dn,Dp,Dq,Dr,Ds,Dt,Du,Dv,Dw,Dx,Dy,Dz,D0,D1,D2,D3,D4,D5,D6,D7,D8,D9,Ea,Eb,
 Ec,Ed,Ee,Ef,Eg,Eh,Ei,Ej,Ek,El,Em,En,Eo,Ep,Er,Es,Et,Eu,Ev,Ew,Ex,Ey,Ez,E0,E1,E2,E3,E4,E5,
 E6,E7,E8,E9,Fa,Fb,Fc,Fd,Fe,Ff,F2,F3,F4,F5,Fg,Fh,Fi,Fj,Fk,Fl,Fm,Fn,Fo,Fp],[]⟩ w := by
  conv => arg 2; whnf
  go_wp2
  exact hQ 

set_option maxRecDepth 100000 in
set_option maxHeartbeats 2000000 in
theorem blkBegin2 {Aa Ab Ac Ad Ae Af Ag F6 F7 Ah Ai Aj F8 Ak Al Am An F9 Ao Fq Fr Fs Ft Ap Aq Ar As Au Av Aw Ax Ay Az A0 A1 A2 A3 A4 A5 A6 A7 A8 A9 Ba Bb Bc Bd Be Bf Bg Bh Bi Bj Bk Fu Fv Fw Fx Bl Bm Bn Bo Bp Bq Br Bs Bt Bu Bv Bw Bx Bz B0 B1 B2 B3 B4 B5 B6 B7 B8 B9 Ca Cb Cc Cd Ce Cf Cg Ch Ci Cj Ck Cl Cm Cn Co Cp Cq Cr Cs Ct Cu Cv Cw Cx Cy Cz Fy Fz F0 F1 C0 C1 C2 C3 C4 C5 C6 C7 C8 C9 Da Db Dc Dd De Df Dg Dh Di Dj Dk Dl Dm Dn Dp Dq Dr Ds Dt Du Dv Dw Dx Dy Dz D0 D1 D2 D3 D4 D5 D6 D7 D8 D9 Ea Eb Ec Ed Ee Ef Eg Eh Ei Ej Ek El Em En Eo Ep Er Es Et Eu Ev Ew Ex Ey Ez E0 E1 E2 E3 E4 E5 E6 E7 E8 E9 Fa Fb Fc Fd Fe Ff F2 F3 F4 F5 Fg Fh Fi Fj Fk Fl Fm Fn Fo Fp : Value} {w : World} {Q : Exit → Act → World → Prop}
    (hQ : Q .normal ⟨#[
 Aa,Ab,Ac,Ad,Ae,Af,Ag,F6,.int .i64 (16),Ah,Ai,Aj,F8,Ak,Al,Am,An,F9,Ao,Fq,Fr,Fs,Ft,Ap,Aq,Ar,As,Au,Av,Aw,Ax,Ay,Az,
 A0,A1,A2,A3,A4,A5,A6,A7,A8,A9,Ba,Bb,Bc,Bd,Be,Bf,Bg,Bh,Bi,Bj,Bk,Fu,Fv,Fw,Fx,Bl,Bm,Bn,Bo,Bp,Bq,Br,Bs,
 Bt,Bu,Bv,Bw,Bx,Bz,B0,B1,B2,B3,B4,B5,B6,B7,B8,B9,Ca,Cb,Cc,Cd,Ce,Cf,Cg,Ch,Ci,Cj,Ck,Cl,Cm,Cn,Co,Cp,Cq,
 Cr,Cs,Ct,Cu,Cv,Cw,Cx,Cy,Cz,Fy,Fz,F0,F1,C0,C1,C2,C3,C4,C5,C6,C7,C8,C9,Da,Db,Dc,Dd,De,Df,
 Dg,Dh,Di,Dj,Dk,Dl,Dm,Dn,Dp,Dq,Dr,Ds,Dt,Du,Dv,Dw,Dx,Dy,Dz,D0,D1,D2,D3,D4,D5,D6,D7,D8,D9,
 Ea,Eb,Ec,Ed,Ee,Ef,Eg,Eh,Ei,Ej,Ek,El,Em,En,Eo,Ep,Er,Es,Et,Eu,Ev,Ew,Ex,Ey,Ez,E0,E1,E2,E3,
 E4,E5,E6,E7,E8,E9,Fa,Fb,Fc,Fd,Fe,Ff,F2,F3,F4,F5,Fg,Fh,Fi,Fj,Fk,Fl,Fm,Fn,Fo,Fp],[]⟩ (w)) :
    Code.wp Try.prog (blkReg 7) Q ⟨#[
 Aa,Ab,Ac,Ad,Ae,Af,Ag,F6,F7,Ah,Ai,Aj,F8,Ak,Al,Am,An,F9,Ao,Fq,Fr,Fs,Ft,Ap,Aq,Ar,As,Au,Av,Aw,Ax,Ay,Az,A0,A1,
 A2,A3,A4,A5,A6,A7,A8,A9,Ba,Bb,Bc,Bd,Be,Bf,Bg,Bh,Bi,Bj,Bk,Fu,Fv,Fw,Fx,Bl,Bm,Bn,Bo,Bp,Bq,Br,Bs,Bt,Bu,
 Bv,Bw,Bx,Bz,B0,B1,B2,B3,B4,B5,B6,B7,B8,B9,Ca,Cb,Cc,Cd,Ce,Cf,Cg,Ch,Ci,Cj,Ck,Cl,Cm,Cn,Co,Cp,Cq,Cr,Cs,
 Ct,Cu,Cv,Cw,Cx,Cy,Cz,Fy,Fz,F0,F1,C0,C1,C2,C3,C4,C5,C6,C7,C8,C9,Da,Db,Dc,Dd,De,Df,Dg,Dh,
 Di,Dj,Dk,Dl,Dm,Dn,Dp,Dq,Dr,Ds,Dt,Du,Dv,Dw,Dx,Dy,Dz,D0,D1,D2,D3,D4,D5,D6,D7,D8,D9,Ea,Eb,
 Ec,Ed,Ee,Ef,Eg,Eh,Ei,Ej,Ek,El,Em,En,Eo,Ep,Er,Es,Et,Eu,Ev,Ew,Ex,Ey,Ez,E0,E1,E2,E3,E4,E5,
 E6,E7,E8,E9,Fa,Fb,Fc,Fd,Fe,Ff,F2,F3,F4,F5,Fg,Fh,Fi,Fj,Fk,Fl,Fm,Fn,Fo,Fp],[]⟩ w := by
  conv => arg 2; whnf
  go_wp2
  exact hQ 

set_option maxRecDepth 100000 in
set_option maxHeartbeats 2000000 in
theorem blkBegin3 {Aa Ab Ac Ad Ae Af Ag F6 F7 Ah Ai Aj F8 Ak Al Am An F9 Ao Fq Fr Fs Ft Ap Aq Ar As Au Av Aw Ax Ay Az A0 A1 A2 A3 A4 A5 A6 A7 A8 A9 Ba Bb Bc Bd Be Bf Bg Bh Bi Bj Bk Fu Fv Fw Fx Bl Bm Bn Bo Bp Bq Br Bs Bt Bu Bv Bw Bx Bz B0 B1 B2 B3 B4 B5 B6 B7 B8 B9 Ca Cb Cc Cd Ce Cf Cg Ch Ci Cj Ck Cl Cm Cn Co Cp Cq Cr Cs Ct Cu Cv Cw Cx Cy Cz Fy Fz F0 F1 C0 C1 C2 C3 C4 C5 C6 C7 C8 C9 Da Db Dc Dd De Df Dg Dh Di Dj Dk Dl Dm Dn Dp Dq Dr Ds Dt Du Dv Dw Dx Dy Dz D0 D1 D2 D3 D4 D5 D6 D7 D8 D9 Ea Eb Ec Ed Ee Ef Eg Eh Ei Ej Ek El Em En Eo Ep Er Es Et Eu Ev Ew Ex Ey Ez E0 E1 E2 E3 E4 E5 E6 E7 E8 E9 Fa Fb Fc Fd Fe Ff F2 F3 F4 F5 Fg Fh Fi Fj Fk Fl Fm Fn Fo Fp : Value} {w : World} {Q : Exit → Act → World → Prop}
    (hQ : Q .normal ⟨#[
 Aa,Ab,Ac,Ad,Ae,Af,Ag,F6,F7,Ah,Ai,Aj,.int .i64 (0),Ak,Al,Am,An,F9,Ao,Fq,Fr,Fs,Ft,Ap,Aq,Ar,As,Au,Av,Aw,Ax,Ay,Az,
 A0,A1,A2,A3,A4,A5,A6,A7,A8,A9,Ba,Bb,Bc,Bd,Be,Bf,Bg,Bh,Bi,Bj,Bk,Fu,Fv,Fw,Fx,Bl,Bm,Bn,Bo,Bp,Bq,Br,Bs,
 Bt,Bu,Bv,Bw,Bx,Bz,B0,B1,B2,B3,B4,B5,B6,B7,B8,B9,Ca,Cb,Cc,Cd,Ce,Cf,Cg,Ch,Ci,Cj,Ck,Cl,Cm,Cn,Co,Cp,Cq,
 Cr,Cs,Ct,Cu,Cv,Cw,Cx,Cy,Cz,Fy,Fz,F0,F1,C0,C1,C2,C3,C4,C5,C6,C7,C8,C9,Da,Db,Dc,Dd,De,Df,
 Dg,Dh,Di,Dj,Dk,Dl,Dm,Dn,Dp,Dq,Dr,Ds,Dt,Du,Dv,Dw,Dx,Dy,Dz,D0,D1,D2,D3,D4,D5,D6,D7,D8,D9,
 Ea,Eb,Ec,Ed,Ee,Ef,Eg,Eh,Ei,Ej,Ek,El,Em,En,Eo,Ep,Er,Es,Et,Eu,Ev,Ew,Ex,Ey,Ez,E0,E1,E2,E3,
 E4,E5,E6,E7,E8,E9,Fa,Fb,Fc,Fd,Fe,Ff,F2,F3,F4,F5,Fg,Fh,Fi,Fj,Fk,Fl,Fm,Fn,Fo,Fp],[]⟩ (w)) :
    Code.wp Try.prog (blkReg 14) Q ⟨#[
 Aa,Ab,Ac,Ad,Ae,Af,Ag,F6,F7,Ah,Ai,Aj,F8,Ak,Al,Am,An,F9,Ao,Fq,Fr,Fs,Ft,Ap,Aq,Ar,As,Au,Av,Aw,Ax,Ay,Az,A0,A1,
 A2,A3,A4,A5,A6,A7,A8,A9,Ba,Bb,Bc,Bd,Be,Bf,Bg,Bh,Bi,Bj,Bk,Fu,Fv,Fw,Fx,Bl,Bm,Bn,Bo,Bp,Bq,Br,Bs,Bt,Bu,
 Bv,Bw,Bx,Bz,B0,B1,B2,B3,B4,B5,B6,B7,B8,B9,Ca,Cb,Cc,Cd,Ce,Cf,Cg,Ch,Ci,Cj,Ck,Cl,Cm,Cn,Co,Cp,Cq,Cr,Cs,
 Ct,Cu,Cv,Cw,Cx,Cy,Cz,Fy,Fz,F0,F1,C0,C1,C2,C3,C4,C5,C6,C7,C8,C9,Da,Db,Dc,Dd,De,Df,Dg,Dh,
 Di,Dj,Dk,Dl,Dm,Dn,Dp,Dq,Dr,Ds,Dt,Du,Dv,Dw,Dx,Dy,Dz,D0,D1,D2,D3,D4,D5,D6,D7,D8,D9,Ea,Eb,
 Ec,Ed,Ee,Ef,Eg,Eh,Ei,Ej,Ek,El,Em,En,Eo,Ep,Er,Es,Et,Eu,Ev,Ew,Ex,Ey,Ez,E0,E1,E2,E3,E4,E5,
 E6,E7,E8,E9,Fa,Fb,Fc,Fd,Fe,Ff,F2,F3,F4,F5,Fg,Fh,Fi,Fj,Fk,Fl,Fm,Fn,Fo,Fp],[]⟩ w := by
  conv => arg 2; whnf
  go_wp2
  exact hQ 

set_option maxRecDepth 100000 in
set_option maxHeartbeats 2000000 in
theorem blkBegin4 {Aa Ab Ac Ad Ae Af Ag F6 F7 Ah Ai Aj F8 Ak Al Am An F9 Ao Fq Fr Fs Ft Ap Aq Ar As Au Av Aw Ax Ay Az A0 A1 A2 A3 A4 A5 A6 A7 A8 A9 Ba Bb Bc Bd Be Bf Bg Bh Bi Bj Bk Fu Fv Fw Fx Bl Bm Bn Bo Bp Bq Br Bs Bt Bu Bv Bw Bx Bz B0 B1 B2 B3 B4 B5 B6 B7 B8 B9 Ca Cb Cc Cd Ce Cf Cg Ch Ci Cj Ck Cl Cm Cn Co Cp Cq Cr Cs Ct Cu Cv Cw Cx Cy Cz Fy Fz F0 F1 C0 C1 C2 C3 C4 C5 C6 C7 C8 C9 Da Db Dc Dd De Df Dg Dh Di Dj Dk Dl Dm Dn Dp Dq Dr Ds Dt Du Dv Dw Dx Dy Dz D0 D1 D2 D3 D4 D5 D6 D7 D8 D9 Ea Eb Ec Ed Ee Ef Eg Eh Ei Ej Ek El Em En Eo Ep Er Es Et Eu Ev Ew Ex Ey Ez E0 E1 E2 E3 E4 E5 E6 E7 E8 E9 Fa Fb Fc Fd Fe Ff F2 F3 F4 F5 Fg Fh Fi Fj Fk Fl Fm Fn Fo Fp : Value} {w : World} {Q : Exit → Act → World → Prop}
    (hQ : Q .normal ⟨#[
 Aa,Ab,Ac,Ad,Ae,Af,Ag,F6,F7,Ah,Ai,Aj,F8,Ak,Al,Am,An,.int .i64 (0),Ao,Fq,Fr,Fs,Ft,Ap,Aq,Ar,As,Au,Av,Aw,Ax,Ay,Az,
 A0,A1,A2,A3,A4,A5,A6,A7,A8,A9,Ba,Bb,Bc,Bd,Be,Bf,Bg,Bh,Bi,Bj,Bk,Fu,Fv,Fw,Fx,Bl,Bm,Bn,Bo,Bp,Bq,Br,Bs,
 Bt,Bu,Bv,Bw,Bx,Bz,B0,B1,B2,B3,B4,B5,B6,B7,B8,B9,Ca,Cb,Cc,Cd,Ce,Cf,Cg,Ch,Ci,Cj,Ck,Cl,Cm,Cn,Co,Cp,Cq,
 Cr,Cs,Ct,Cu,Cv,Cw,Cx,Cy,Cz,Fy,Fz,F0,F1,C0,C1,C2,C3,C4,C5,C6,C7,C8,C9,Da,Db,Dc,Dd,De,Df,
 Dg,Dh,Di,Dj,Dk,Dl,Dm,Dn,Dp,Dq,Dr,Ds,Dt,Du,Dv,Dw,Dx,Dy,Dz,D0,D1,D2,D3,D4,D5,D6,D7,D8,D9,
 Ea,Eb,Ec,Ed,Ee,Ef,Eg,Eh,Ei,Ej,Ek,El,Em,En,Eo,Ep,Er,Es,Et,Eu,Ev,Ew,Ex,Ey,Ez,E0,E1,E2,E3,
 E4,E5,E6,E7,E8,E9,Fa,Fb,Fc,Fd,Fe,Ff,F2,F3,F4,F5,Fg,Fh,Fi,Fj,Fk,Fl,Fm,Fn,Fo,Fp],[]⟩ (w)) :
    Code.wp Try.prog (blkReg 22) Q ⟨#[
 Aa,Ab,Ac,Ad,Ae,Af,Ag,F6,F7,Ah,Ai,Aj,F8,Ak,Al,Am,An,F9,Ao,Fq,Fr,Fs,Ft,Ap,Aq,Ar,As,Au,Av,Aw,Ax,Ay,Az,A0,A1,
 A2,A3,A4,A5,A6,A7,A8,A9,Ba,Bb,Bc,Bd,Be,Bf,Bg,Bh,Bi,Bj,Bk,Fu,Fv,Fw,Fx,Bl,Bm,Bn,Bo,Bp,Bq,Br,Bs,Bt,Bu,
 Bv,Bw,Bx,Bz,B0,B1,B2,B3,B4,B5,B6,B7,B8,B9,Ca,Cb,Cc,Cd,Ce,Cf,Cg,Ch,Ci,Cj,Ck,Cl,Cm,Cn,Co,Cp,Cq,Cr,Cs,
 Ct,Cu,Cv,Cw,Cx,Cy,Cz,Fy,Fz,F0,F1,C0,C1,C2,C3,C4,C5,C6,C7,C8,C9,Da,Db,Dc,Dd,De,Df,Dg,Dh,
 Di,Dj,Dk,Dl,Dm,Dn,Dp,Dq,Dr,Ds,Dt,Du,Dv,Dw,Dx,Dy,Dz,D0,D1,D2,D3,D4,D5,D6,D7,D8,D9,Ea,Eb,
 Ec,Ed,Ee,Ef,Eg,Eh,Ei,Ej,Ek,El,Em,En,Eo,Ep,Er,Es,Et,Eu,Ev,Ew,Ex,Ey,Ez,E0,E1,E2,E3,E4,E5,
 E6,E7,E8,E9,Fa,Fb,Fc,Fd,Fe,Ff,F2,F3,F4,F5,Fg,Fh,Fi,Fj,Fk,Fl,Fm,Fn,Fo,Fp],[]⟩ w := by
  conv => arg 2; whnf
  go_wp2
  exact hQ 

set_option maxRecDepth 100000 in
set_option maxHeartbeats 2000000 in
theorem blkTest1 {Aa Ab Ac Ad Ae Af Ag F7 Ah Ai Aj F8 Ak Al Am An F9 Ao Fq Fr Fs Ft Ap Aq Ar As Au Av Aw Ax Ay Az A0 A1 A2 A3 A4 A5 A6 A7 A8 A9 Ba Bb Bc Bd Be Bf Bg Bh Bi Bj Bk Fu Fv Fw Fx Bl Bm Bn Bo Bp Bq Br Bs Bt Bu Bv Bw Bx Bz B0 B1 B2 B3 B4 B5 B6 B7 B8 B9 Ca Cb Cc Cd Ce Cf Cg Ch Ci Cj Ck Cl Cm Cn Co Cp Cq Cr Cs Ct Cu Cv Cw Cx Cy Cz Fy Fz F0 F1 C0 C1 C2 C3 C4 C5 C6 C7 C8 C9 Da Db Dc Dd De Df Dg Dh Di Dj Dk Dl Dm Dn Dp Dq Dr Ds Dt Du Dv Dw Dx Dy Dz D0 D1 D2 D3 D4 D5 D6 D7 D8 D9 Ea Eb Ec Ed Ee Ef Eg Eh Ei Ej Ek El Em En Eo Ep Er Es Et Eu Ev Ew Ex Ey Ez E0 E1 E2 E3 E4 E5 E6 E7 E8 E9 Fa Fb Fc Fd Fe Ff F2 F3 F4 F5 Fg Fh Fi Fj Fk Fl Fm Fn Fo Fp : Value} (k : Nat) {w : World} {Q : Exit → Act → World → Prop}
    (hQ : ∀ (Ga : Value), Q .normal ⟨#[
 Aa,Ab,Ac,Ad,Ae,Af,Ag,(.int .i64 (k : Int)),F7,Ah,Ai,Aj,F8,Ak,Al,Am,An,F9,Ao,Ga,.bool (decide ((k : Int) < 16)),Fs,Ft,Ap,Aq,Ar,As,
 Au,Av,Aw,Ax,Ay,Az,A0,A1,A2,A3,A4,A5,A6,A7,A8,A9,Ba,Bb,Bc,Bd,Be,Bf,Bg,Bh,Bi,Bj,Bk,Fu,Fv,Fw,Fx,Bl,Bm,
 Bn,Bo,Bp,Bq,Br,Bs,Bt,Bu,Bv,Bw,Bx,Bz,B0,B1,B2,B3,B4,B5,B6,B7,B8,B9,Ca,Cb,Cc,Cd,Ce,Cf,Cg,Ch,Ci,Cj,Ck,
 Cl,Cm,Cn,Co,Cp,Cq,Cr,Cs,Ct,Cu,Cv,Cw,Cx,Cy,Cz,Fy,Fz,F0,F1,C0,C1,C2,C3,C4,C5,C6,C7,C8,C9,Da,
 Db,Dc,Dd,De,Df,Dg,Dh,Di,Dj,Dk,Dl,Dm,Dn,Dp,Dq,Dr,Ds,Dt,Du,Dv,Dw,Dx,Dy,Dz,D0,D1,D2,D3,D4,
 D5,D6,D7,D8,D9,Ea,Eb,Ec,Ed,Ee,Ef,Eg,Eh,Ei,Ej,Ek,El,Em,En,Eo,Ep,Er,Es,Et,Eu,Ev,Ew,Ex,Ey,
 Ez,E0,E1,E2,E3,E4,E5,E6,E7,E8,E9,Fa,Fb,Fc,Fd,Fe,Ff,F2,F3,F4,F5,Fg,Fh,Fi,Fj,Fk,Fl,Fm,Fn,
    Fo, Fp], []⟩ (w)) :
    Code.wp Try.prog (blkReg 4) Q ⟨#[
 Aa,Ab,Ac,Ad,Ae,Af,Ag,(.int .i64 (k : Int)),F7,Ah,Ai,Aj,F8,Ak,Al,Am,An,F9,Ao,Fq,Fr,Fs,Ft,Ap,Aq,Ar,As,Au,Av,Aw,Ax,Ay,
 Az,A0,A1,A2,A3,A4,A5,A6,A7,A8,A9,Ba,Bb,Bc,Bd,Be,Bf,Bg,Bh,Bi,Bj,Bk,Fu,Fv,Fw,Fx,Bl,Bm,Bn,Bo,Bp,Bq,Br,
 Bs,Bt,Bu,Bv,Bw,Bx,Bz,B0,B1,B2,B3,B4,B5,B6,B7,B8,B9,Ca,Cb,Cc,Cd,Ce,Cf,Cg,Ch,Ci,Cj,Ck,Cl,Cm,Cn,Co,Cp,
 Cq,Cr,Cs,Ct,Cu,Cv,Cw,Cx,Cy,Cz,Fy,Fz,F0,F1,C0,C1,C2,C3,C4,C5,C6,C7,C8,C9,Da,Db,Dc,Dd,De,
 Df,Dg,Dh,Di,Dj,Dk,Dl,Dm,Dn,Dp,Dq,Dr,Ds,Dt,Du,Dv,Dw,Dx,Dy,Dz,D0,D1,D2,D3,D4,D5,D6,D7,D8,
 D9,Ea,Eb,Ec,Ed,Ee,Ef,Eg,Eh,Ei,Ej,Ek,El,Em,En,Eo,Ep,Er,Es,Et,Eu,Ev,Ew,Ex,Ey,Ez,E0,E1,E2,
 E3,E4,E5,E6,E7,E8,E9,Fa,Fb,Fc,Fd,Fe,Ff,F2,F3,F4,F5,Fg,Fh,Fi,Fj,Fk,Fl,Fm,Fn,Fo,Fp],[]⟩ w := by
  conv => arg 2; whnf
  go_wp2
  exact hQ _

set_option maxRecDepth 100000 in
set_option maxHeartbeats 2000000 in
theorem blkTest2 {Aa Ab Ac Ad Ae Af Ag F6 Ah Ai Aj F8 Ak Al Am An F9 Ao Fq Fr Fs Ft Ap Aq Ar As Au Av Aw Ax Ay Az A0 A1 A2 A3 A4 A5 A6 A7 A8 A9 Ba Bb Bc Bd Be Bf Bg Bh Bi Bj Bk Fu Fv Fw Fx Bl Bm Bn Bo Bp Bq Br Bs Bt Bu Bv Bw Bx Bz B0 B1 B2 B3 B4 B5 B6 B7 B8 B9 Ca Cb Cc Cd Ce Cf Cg Ch Ci Cj Ck Cl Cm Cn Co Cp Cq Cr Cs Ct Cu Cv Cw Cx Cy Cz Fy Fz F0 F1 C0 C1 C2 C3 C4 C5 C6 C7 C8 C9 Da Db Dc Dd De Df Dg Dh Di Dj Dk Dl Dm Dn Dp Dq Dr Ds Dt Du Dv Dw Dx Dy Dz D0 D1 D2 D3 D4 D5 D6 D7 D8 D9 Ea Eb Ec Ed Ee Ef Eg Eh Ei Ej Ek El Em En Eo Ep Er Es Et Eu Ev Ew Ex Ey Ez E0 E1 E2 E3 E4 E5 E6 E7 E8 E9 Fa Fb Fc Fd Fe Ff F2 F3 F4 F5 Fg Fh Fi Fj Fk Fl Fm Fn Fo Fp : Value} (k : Nat) {w : World} {Q : Exit → Act → World → Prop}
    (hQ : ∀ (Gb : Value), Q .normal ⟨#[
 Aa,Ab,Ac,Ad,Ae,Af,Ag,F6,(.int .i64 (k : Int)),Ah,Ai,Aj,F8,Ak,Al,Am,An,F9,Ao,Fq,Fr,Fs,Ft,Ap,Aq,Ar,As,Au,Av,Aw,Ax,Ay,
 Az,A0,A1,A2,A3,A4,A5,A6,A7,A8,A9,Ba,Bb,Bc,Bd,Be,Bf,Bg,Bh,Bi,Bj,Bk,Gb,.bool (decide ((k : Int) < 64)),Fw,Fx,Bl,Bm,Bn,
 Bo,Bp,Bq,Br,Bs,Bt,Bu,Bv,Bw,Bx,Bz,B0,B1,B2,B3,B4,B5,B6,B7,B8,B9,Ca,Cb,Cc,Cd,Ce,Cf,Cg,Ch,Ci,Cj,Ck,Cl,
 Cm,Cn,Co,Cp,Cq,Cr,Cs,Ct,Cu,Cv,Cw,Cx,Cy,Cz,Fy,Fz,F0,F1,C0,C1,C2,C3,C4,C5,C6,C7,C8,C9,Da,
 Db,Dc,Dd,De,Df,Dg,Dh,Di,Dj,Dk,Dl,Dm,Dn,Dp,Dq,Dr,Ds,Dt,Du,Dv,Dw,Dx,Dy,Dz,D0,D1,D2,D3,D4,
 D5,D6,D7,D8,D9,Ea,Eb,Ec,Ed,Ee,Ef,Eg,Eh,Ei,Ej,Ek,El,Em,En,Eo,Ep,Er,Es,Et,Eu,Ev,Ew,Ex,Ey,
 Ez,E0,E1,E2,E3,E4,E5,E6,E7,E8,E9,Fa,Fb,Fc,Fd,Fe,Ff,F2,F3,F4,F5,Fg,Fh,Fi,Fj,Fk,Fl,Fm,Fn,
    Fo, Fp], []⟩ (w)) :
    Code.wp Try.prog (blkReg 8) Q ⟨#[
 Aa,Ab,Ac,Ad,Ae,Af,Ag,F6,(.int .i64 (k : Int)),Ah,Ai,Aj,F8,Ak,Al,Am,An,F9,Ao,Fq,Fr,Fs,Ft,Ap,Aq,Ar,As,Au,Av,Aw,Ax,Ay,
 Az,A0,A1,A2,A3,A4,A5,A6,A7,A8,A9,Ba,Bb,Bc,Bd,Be,Bf,Bg,Bh,Bi,Bj,Bk,Fu,Fv,Fw,Fx,Bl,Bm,Bn,Bo,Bp,Bq,Br,
 Bs,Bt,Bu,Bv,Bw,Bx,Bz,B0,B1,B2,B3,B4,B5,B6,B7,B8,B9,Ca,Cb,Cc,Cd,Ce,Cf,Cg,Ch,Ci,Cj,Ck,Cl,Cm,Cn,Co,Cp,
 Cq,Cr,Cs,Ct,Cu,Cv,Cw,Cx,Cy,Cz,Fy,Fz,F0,F1,C0,C1,C2,C3,C4,C5,C6,C7,C8,C9,Da,Db,Dc,Dd,De,
 Df,Dg,Dh,Di,Dj,Dk,Dl,Dm,Dn,Dp,Dq,Dr,Ds,Dt,Du,Dv,Dw,Dx,Dy,Dz,D0,D1,D2,D3,D4,D5,D6,D7,D8,
 D9,Ea,Eb,Ec,Ed,Ee,Ef,Eg,Eh,Ei,Ej,Ek,El,Em,En,Eo,Ep,Er,Es,Et,Eu,Ev,Ew,Ex,Ey,Ez,E0,E1,E2,
 E3,E4,E5,E6,E7,E8,E9,Fa,Fb,Fc,Fd,Fe,Ff,F2,F3,F4,F5,Fg,Fh,Fi,Fj,Fk,Fl,Fm,Fn,Fo,Fp],[]⟩ w := by
  conv => arg 2; whnf
  go_wp2
  exact hQ _

set_option maxRecDepth 100000 in
set_option maxHeartbeats 2000000 in
theorem blkTest3 {Aa Ab Ac Ad Ae Af Ag F6 F7 Ah Ai Aj Ak Al Am An F9 Ao Fq Fr Fs Ft Ap Aq Ar As Au Av Aw Ax Ay Az A0 A1 A2 A3 A4 A5 A6 A7 A8 A9 Ba Bb Bc Bd Be Bf Bg Bh Bi Bj Bk Fu Fv Fw Fx Bl Bm Bn Bo Bp Bq Br Bs Bt Bu Bv Bw Bx Bz B0 B1 B2 B3 B4 B5 B6 B7 B8 B9 Ca Cb Cc Cd Ce Cf Cg Ch Ci Cj Ck Cl Cm Cn Co Cp Cq Cr Cs Ct Cu Cv Cw Cx Cy Cz Fy Fz F0 F1 C0 C1 C2 C3 C4 C5 C6 C7 C8 C9 Da Db Dc Dd De Df Dg Dh Di Dj Dk Dl Dm Dn Dp Dq Dr Ds Dt Du Dv Dw Dx Dy Dz D0 D1 D2 D3 D4 D5 D6 D7 D8 D9 Ea Eb Ec Ed Ee Ef Eg Eh Ei Ej Ek El Em En Eo Ep Er Es Et Eu Ev Ew Ex Ey Ez E0 E1 E2 E3 E4 E5 E6 E7 E8 E9 Fa Fb Fc Fd Fe Ff F2 F3 F4 F5 Fg Fh Fi Fj Fk Fl Fm Fn Fo Fp : Value} (k : Nat) {w : World} {Q : Exit → Act → World → Prop}
    (hQ : ∀ (Gc : Value), Q .normal ⟨#[
 Aa,Ab,Ac,Ad,Ae,Af,Ag,F6,F7,Ah,Ai,Aj,(.int .i64 (k : Int)),Ak,Al,Am,An,F9,Ao,Fq,Fr,Fs,Ft,Ap,Aq,Ar,As,Au,Av,Aw,Ax,Ay,
 Az,A0,A1,A2,A3,A4,A5,A6,A7,A8,A9,Ba,Bb,Bc,Bd,Be,Bf,Bg,Bh,Bi,Bj,Bk,Fu,Fv,Fw,Fx,Bl,Bm,Bn,Bo,Bp,Bq,Br,
 Bs,Bt,Bu,Bv,Bw,Bx,Bz,B0,B1,B2,B3,B4,B5,B6,B7,B8,B9,Ca,Cb,Cc,Cd,Ce,Cf,Cg,Ch,Ci,Cj,Ck,Cl,Cm,Cn,Co,Cp,
 Cq,Cr,Cs,Ct,Cu,Cv,Cw,Cx,Cy,Cz,Gc,.bool (decide ((k : Int) < 64)),F0,F1,C0,C1,C2,C3,C4,C5,C6,C7,C8,C9,Da,
 Db,Dc,Dd,De,Df,Dg,Dh,Di,Dj,Dk,Dl,Dm,Dn,Dp,Dq,Dr,Ds,Dt,Du,Dv,Dw,Dx,Dy,Dz,D0,D1,D2,D3,D4,
 D5,D6,D7,D8,D9,Ea,Eb,Ec,Ed,Ee,Ef,Eg,Eh,Ei,Ej,Ek,El,Em,En,Eo,Ep,Er,Es,Et,Eu,Ev,Ew,Ex,Ey,
 Ez,E0,E1,E2,E3,E4,E5,E6,E7,E8,E9,Fa,Fb,Fc,Fd,Fe,Ff,F2,F3,F4,F5,Fg,Fh,Fi,Fj,Fk,Fl,Fm,Fn,
    Fo, Fp], []⟩ (w)) :
    Code.wp Try.prog (blkReg 15) Q ⟨#[
 Aa,Ab,Ac,Ad,Ae,Af,Ag,F6,F7,Ah,Ai,Aj,(.int .i64 (k : Int)),Ak,Al,Am,An,F9,Ao,Fq,Fr,Fs,Ft,Ap,Aq,Ar,As,Au,Av,Aw,Ax,Ay,
 Az,A0,A1,A2,A3,A4,A5,A6,A7,A8,A9,Ba,Bb,Bc,Bd,Be,Bf,Bg,Bh,Bi,Bj,Bk,Fu,Fv,Fw,Fx,Bl,Bm,Bn,Bo,Bp,Bq,Br,
 Bs,Bt,Bu,Bv,Bw,Bx,Bz,B0,B1,B2,B3,B4,B5,B6,B7,B8,B9,Ca,Cb,Cc,Cd,Ce,Cf,Cg,Ch,Ci,Cj,Ck,Cl,Cm,Cn,Co,Cp,
 Cq,Cr,Cs,Ct,Cu,Cv,Cw,Cx,Cy,Cz,Fy,Fz,F0,F1,C0,C1,C2,C3,C4,C5,C6,C7,C8,C9,Da,Db,Dc,Dd,De,
 Df,Dg,Dh,Di,Dj,Dk,Dl,Dm,Dn,Dp,Dq,Dr,Ds,Dt,Du,Dv,Dw,Dx,Dy,Dz,D0,D1,D2,D3,D4,D5,D6,D7,D8,
 D9,Ea,Eb,Ec,Ed,Ee,Ef,Eg,Eh,Ei,Ej,Ek,El,Em,En,Eo,Ep,Er,Es,Et,Eu,Ev,Ew,Ex,Ey,Ez,E0,E1,E2,
 E3,E4,E5,E6,E7,E8,E9,Fa,Fb,Fc,Fd,Fe,Ff,F2,F3,F4,F5,Fg,Fh,Fi,Fj,Fk,Fl,Fm,Fn,Fo,Fp],[]⟩ w := by
  conv => arg 2; whnf
  go_wp2
  exact hQ _

set_option maxRecDepth 100000 in
set_option maxHeartbeats 2000000 in
theorem blkTest4 {Aa Ab Ac Ad Ae Af Ag F6 F7 Ah Ai Aj F8 Ak Al Am An Ao Fq Fr Fs Ft Ap Aq Ar As Au Av Aw Ax Ay Az A0 A1 A2 A3 A4 A5 A6 A7 A8 A9 Ba Bb Bc Bd Be Bf Bg Bh Bi Bj Bk Fu Fv Fw Fx Bl Bm Bn Bo Bp Bq Br Bs Bt Bu Bv Bw Bx Bz B0 B1 B2 B3 B4 B5 B6 B7 B8 B9 Ca Cb Cc Cd Ce Cf Cg Ch Ci Cj Ck Cl Cm Cn Co Cp Cq Cr Cs Ct Cu Cv Cw Cx Cy Cz Fy Fz F0 F1 C0 C1 C2 C3 C4 C5 C6 C7 C8 C9 Da Db Dc Dd De Df Dg Dh Di Dj Dk Dl Dm Dn Dp Dq Dr Ds Dt Du Dv Dw Dx Dy Dz D0 D1 D2 D3 D4 D5 D6 D7 D8 D9 Ea Eb Ec Ed Ee Ef Eg Eh Ei Ej Ek El Em En Eo Ep Er Es Et Eu Ev Ew Ex Ey Ez E0 E1 E2 E3 E4 E5 E6 E7 E8 E9 Fa Fb Fc Fd Fe Ff F2 F3 F4 F5 Fg Fh Fi Fj Fk Fl Fm Fn Fo Fp : Value} (k : Nat) {w : World} {Q : Exit → Act → World → Prop}
    (hQ : ∀ (Gd : Value), Q .normal ⟨#[
 Aa,Ab,Ac,Ad,Ae,Af,Ag,F6,F7,Ah,Ai,Aj,F8,Ak,Al,Am,An,(.int .i64 (k : Int)),Ao,Fq,Fr,Fs,Ft,Ap,Aq,Ar,As,Au,Av,Aw,Ax,Ay,
 Az,A0,A1,A2,A3,A4,A5,A6,A7,A8,A9,Ba,Bb,Bc,Bd,Be,Bf,Bg,Bh,Bi,Bj,Bk,Fu,Fv,Fw,Fx,Bl,Bm,Bn,Bo,Bp,Bq,Br,
 Bs,Bt,Bu,Bv,Bw,Bx,Bz,B0,B1,B2,B3,B4,B5,B6,B7,B8,B9,Ca,Cb,Cc,Cd,Ce,Cf,Cg,Ch,Ci,Cj,Ck,Cl,Cm,Cn,Co,Cp,
 Cq,Cr,Cs,Ct,Cu,Cv,Cw,Cx,Cy,Cz,Fy,Fz,F0,F1,C0,C1,C2,C3,C4,C5,C6,C7,C8,C9,Da,Db,Dc,Dd,De,
 Df,Dg,Dh,Di,Dj,Dk,Dl,Dm,Dn,Dp,Dq,Dr,Ds,Dt,Du,Dv,Dw,Dx,Dy,Dz,D0,D1,D2,D3,D4,D5,D6,D7,D8,
 D9,Ea,Eb,Ec,Ed,Ee,Ef,Eg,Eh,Ei,Ej,Ek,El,Em,En,Eo,Ep,Er,Es,Et,Eu,Ev,Ew,Ex,Ey,Ez,E0,E1,E2,
 E3,E4,E5,E6,E7,E8,E9,Fa,Fb,Fc,Fd,Fe,Ff,Gd,.bool (decide ((k : Int) < 8)),F4,F5,Fg,Fh,Fi,Fj,Fk,Fl,Fm,Fn,
    Fo, Fp], []⟩ (w)) :
    Code.wp Try.prog (blkReg 23) Q ⟨#[
 Aa,Ab,Ac,Ad,Ae,Af,Ag,F6,F7,Ah,Ai,Aj,F8,Ak,Al,Am,An,(.int .i64 (k : Int)),Ao,Fq,Fr,Fs,Ft,Ap,Aq,Ar,As,Au,Av,Aw,Ax,Ay,
 Az,A0,A1,A2,A3,A4,A5,A6,A7,A8,A9,Ba,Bb,Bc,Bd,Be,Bf,Bg,Bh,Bi,Bj,Bk,Fu,Fv,Fw,Fx,Bl,Bm,Bn,Bo,Bp,Bq,Br,
 Bs,Bt,Bu,Bv,Bw,Bx,Bz,B0,B1,B2,B3,B4,B5,B6,B7,B8,B9,Ca,Cb,Cc,Cd,Ce,Cf,Cg,Ch,Ci,Cj,Ck,Cl,Cm,Cn,Co,Cp,
 Cq,Cr,Cs,Ct,Cu,Cv,Cw,Cx,Cy,Cz,Fy,Fz,F0,F1,C0,C1,C2,C3,C4,C5,C6,C7,C8,C9,Da,Db,Dc,Dd,De,
 Df,Dg,Dh,Di,Dj,Dk,Dl,Dm,Dn,Dp,Dq,Dr,Ds,Dt,Du,Dv,Dw,Dx,Dy,Dz,D0,D1,D2,D3,D4,D5,D6,D7,D8,
 D9,Ea,Eb,Ec,Ed,Ee,Ef,Eg,Eh,Ei,Ej,Ek,El,Em,En,Eo,Ep,Er,Es,Et,Eu,Ev,Ew,Ex,Ey,Ez,E0,E1,E2,
 E3,E4,E5,E6,E7,E8,E9,Fa,Fb,Fc,Fd,Fe,Ff,F2,F3,F4,F5,Fg,Fh,Fi,Fj,Fk,Fl,Fm,Fn,Fo,Fp],[]⟩ w := by
  conv => arg 2; whnf
  go_wp2
  exact hQ _

set_option maxRecDepth 100000 in
set_option maxHeartbeats 2000000 in
theorem blkNext1 {Aa Ab Ac Ad Ae Af Ag F7 Ah Ai Aj F8 Ak Al Am An F9 Ao Fq Fr Fs Ft Ap Aq Ar As Au Av Aw Ax Ay Az A0 A1 A2 A3 A4 A5 A6 A7 A8 A9 Ba Bb Bc Bd Be Bf Bg Bh Bi Bj Bk Fu Fv Fw Fx Bl Bm Bn Bo Bp Bq Br Bs Bt Bu Bv Bw Bx Bz B0 B1 B2 B3 B4 B5 B6 B7 B8 B9 Ca Cb Cc Cd Ce Cf Cg Ch Ci Cj Ck Cl Cm Cn Co Cp Cq Cr Cs Ct Cu Cv Cw Cx Cy Cz Fy Fz F0 F1 C0 C1 C2 C3 C4 C5 C6 C7 C8 C9 Da Db Dc Dd De Df Dg Dh Di Dj Dk Dl Dm Dn Dp Dq Dr Ds Dt Du Dv Dw Dx Dy Dz D0 D1 D2 D3 D4 D5 D6 D7 D8 D9 Ea Eb Ec Ed Ee Ef Eg Eh Ei Ej Ek El Em En Eo Ep Er Es Et Eu Ev Ew Ex Ey Ez E0 E1 E2 E3 E4 E5 E6 E7 E8 E9 Fa Fb Fc Fd Fe Ff F2 F3 F4 F5 Fg Fh Fi Fj Fk Fl Fm Fn Fo Fp : Value} (k : Nat) (hk : k < 64) {w : World} {Q : Exit → Act → World → Prop}
    (hQ : ∀ (Ge Gf : Value), Q .normal ⟨#[
 Aa,Ab,Ac,Ad,Ae,Af,Ag,.int .i64 ((k : Int) + 1),F7,Ah,Ai,Aj,F8,Ak,Al,Am,An,F9,Ao,Fq,Fr,Ge,Gf,Ap,Aq,Ar,As,Au,Av,Aw,Ax,
 Ay,Az,A0,A1,A2,A3,A4,A5,A6,A7,A8,A9,Ba,Bb,Bc,Bd,Be,Bf,Bg,Bh,Bi,Bj,Bk,Fu,Fv,Fw,Fx,Bl,Bm,Bn,Bo,Bp,Bq,
 Br,Bs,Bt,Bu,Bv,Bw,Bx,Bz,B0,B1,B2,B3,B4,B5,B6,B7,B8,B9,Ca,Cb,Cc,Cd,Ce,Cf,Cg,Ch,Ci,Cj,Ck,Cl,Cm,Cn,Co,
 Cp,Cq,Cr,Cs,Ct,Cu,Cv,Cw,Cx,Cy,Cz,Fy,Fz,F0,F1,C0,C1,C2,C3,C4,C5,C6,C7,C8,C9,Da,Db,Dc,Dd,
 De,Df,Dg,Dh,Di,Dj,Dk,Dl,Dm,Dn,Dp,Dq,Dr,Ds,Dt,Du,Dv,Dw,Dx,Dy,Dz,D0,D1,D2,D3,D4,D5,D6,D7,
 D8,D9,Ea,Eb,Ec,Ed,Ee,Ef,Eg,Eh,Ei,Ej,Ek,El,Em,En,Eo,Ep,Er,Es,Et,Eu,Ev,Ew,Ex,Ey,Ez,E0,E1,
 E2,E3,E4,E5,E6,E7,E8,E9,Fa,Fb,Fc,Fd,Fe,Ff,F2,F3,F4,F5,Fg,Fh,Fi,Fj,Fk,Fl,Fm,Fn,Fo,Fp],[]⟩ (w)) :
    Code.wp Try.prog (blkReg 5) Q ⟨#[
 Aa,Ab,Ac,Ad,Ae,Af,Ag,(.int .i64 (k : Int)),F7,Ah,Ai,Aj,F8,Ak,Al,Am,An,F9,Ao,Fq,Fr,Fs,Ft,Ap,Aq,Ar,As,Au,Av,Aw,Ax,Ay,
 Az,A0,A1,A2,A3,A4,A5,A6,A7,A8,A9,Ba,Bb,Bc,Bd,Be,Bf,Bg,Bh,Bi,Bj,Bk,Fu,Fv,Fw,Fx,Bl,Bm,Bn,Bo,Bp,Bq,Br,
 Bs,Bt,Bu,Bv,Bw,Bx,Bz,B0,B1,B2,B3,B4,B5,B6,B7,B8,B9,Ca,Cb,Cc,Cd,Ce,Cf,Cg,Ch,Ci,Cj,Ck,Cl,Cm,Cn,Co,Cp,
 Cq,Cr,Cs,Ct,Cu,Cv,Cw,Cx,Cy,Cz,Fy,Fz,F0,F1,C0,C1,C2,C3,C4,C5,C6,C7,C8,C9,Da,Db,Dc,Dd,De,
 Df,Dg,Dh,Di,Dj,Dk,Dl,Dm,Dn,Dp,Dq,Dr,Ds,Dt,Du,Dv,Dw,Dx,Dy,Dz,D0,D1,D2,D3,D4,D5,D6,D7,D8,
 D9,Ea,Eb,Ec,Ed,Ee,Ef,Eg,Eh,Ei,Ej,Ek,El,Em,En,Eo,Ep,Er,Es,Et,Eu,Ev,Ew,Ex,Ey,Ez,E0,E1,E2,
 E3,E4,E5,E6,E7,E8,E9,Fa,Fb,Fc,Fd,Fe,Ff,F2,F3,F4,F5,Fg,Fh,Fi,Fj,Fk,Fl,Fm,Fn,Fo,Fp],[]⟩ w := by
  conv => arg 2; whnf
  have hs := IntWalk.i64_in ((k : Int) + 1) (by omega)
  clear hk
  go_wp2
  exact hQ _ _

set_option maxRecDepth 100000 in
set_option maxHeartbeats 2000000 in
theorem blkNext2 {Aa Ab Ac Ad Ae Af Ag F6 Ah Ai Aj F8 Ak Al Am An F9 Ao Fq Fr Fs Ft Ap Aq Ar As Au Av Aw Ax Ay Az A0 A1 A2 A3 A4 A5 A6 A7 A8 A9 Ba Bb Bc Bd Be Bf Bg Bh Bi Bj Bk Fu Fv Fw Fx Bl Bm Bn Bo Bp Bq Br Bs Bt Bu Bv Bw Bx Bz B0 B1 B2 B3 B4 B5 B6 B7 B8 B9 Ca Cb Cc Cd Ce Cf Cg Ch Ci Cj Ck Cl Cm Cn Co Cp Cq Cr Cs Ct Cu Cv Cw Cx Cy Cz Fy Fz F0 F1 C0 C1 C2 C3 C4 C5 C6 C7 C8 C9 Da Db Dc Dd De Df Dg Dh Di Dj Dk Dl Dm Dn Dp Dq Dr Ds Dt Du Dv Dw Dx Dy Dz D0 D1 D2 D3 D4 D5 D6 D7 D8 D9 Ea Eb Ec Ed Ee Ef Eg Eh Ei Ej Ek El Em En Eo Ep Er Es Et Eu Ev Ew Ex Ey Ez E0 E1 E2 E3 E4 E5 E6 E7 E8 E9 Fa Fb Fc Fd Fe Ff F2 F3 F4 F5 Fg Fh Fi Fj Fk Fl Fm Fn Fo Fp : Value} (k : Nat) (hk : k < 64) {w : World} {Q : Exit → Act → World → Prop}
    (hQ : ∀ (Gg Gh : Value), Q .normal ⟨#[
 Aa,Ab,Ac,Ad,Ae,Af,Ag,F6,.int .i64 ((k : Int) + 1),Ah,Ai,Aj,F8,Ak,Al,Am,An,F9,Ao,Fq,Fr,Fs,Ft,Ap,Aq,Ar,As,Au,Av,Aw,Ax,
 Ay,Az,A0,A1,A2,A3,A4,A5,A6,A7,A8,A9,Ba,Bb,Bc,Bd,Be,Bf,Bg,Bh,Bi,Bj,Bk,Fu,Fv,Gg,Gh,Bl,Bm,Bn,Bo,Bp,Bq,
 Br,Bs,Bt,Bu,Bv,Bw,Bx,Bz,B0,B1,B2,B3,B4,B5,B6,B7,B8,B9,Ca,Cb,Cc,Cd,Ce,Cf,Cg,Ch,Ci,Cj,Ck,Cl,Cm,Cn,Co,
 Cp,Cq,Cr,Cs,Ct,Cu,Cv,Cw,Cx,Cy,Cz,Fy,Fz,F0,F1,C0,C1,C2,C3,C4,C5,C6,C7,C8,C9,Da,Db,Dc,Dd,
 De,Df,Dg,Dh,Di,Dj,Dk,Dl,Dm,Dn,Dp,Dq,Dr,Ds,Dt,Du,Dv,Dw,Dx,Dy,Dz,D0,D1,D2,D3,D4,D5,D6,D7,
 D8,D9,Ea,Eb,Ec,Ed,Ee,Ef,Eg,Eh,Ei,Ej,Ek,El,Em,En,Eo,Ep,Er,Es,Et,Eu,Ev,Ew,Ex,Ey,Ez,E0,E1,
 E2,E3,E4,E5,E6,E7,E8,E9,Fa,Fb,Fc,Fd,Fe,Ff,F2,F3,F4,F5,Fg,Fh,Fi,Fj,Fk,Fl,Fm,Fn,Fo,Fp],[]⟩ (w)) :
    Code.wp Try.prog (blkReg 9) Q ⟨#[
 Aa,Ab,Ac,Ad,Ae,Af,Ag,F6,(.int .i64 (k : Int)),Ah,Ai,Aj,F8,Ak,Al,Am,An,F9,Ao,Fq,Fr,Fs,Ft,Ap,Aq,Ar,As,Au,Av,Aw,Ax,Ay,
 Az,A0,A1,A2,A3,A4,A5,A6,A7,A8,A9,Ba,Bb,Bc,Bd,Be,Bf,Bg,Bh,Bi,Bj,Bk,Fu,Fv,Fw,Fx,Bl,Bm,Bn,Bo,Bp,Bq,Br,
 Bs,Bt,Bu,Bv,Bw,Bx,Bz,B0,B1,B2,B3,B4,B5,B6,B7,B8,B9,Ca,Cb,Cc,Cd,Ce,Cf,Cg,Ch,Ci,Cj,Ck,Cl,Cm,Cn,Co,Cp,
 Cq,Cr,Cs,Ct,Cu,Cv,Cw,Cx,Cy,Cz,Fy,Fz,F0,F1,C0,C1,C2,C3,C4,C5,C6,C7,C8,C9,Da,Db,Dc,Dd,De,
 Df,Dg,Dh,Di,Dj,Dk,Dl,Dm,Dn,Dp,Dq,Dr,Ds,Dt,Du,Dv,Dw,Dx,Dy,Dz,D0,D1,D2,D3,D4,D5,D6,D7,D8,
 D9,Ea,Eb,Ec,Ed,Ee,Ef,Eg,Eh,Ei,Ej,Ek,El,Em,En,Eo,Ep,Er,Es,Et,Eu,Ev,Ew,Ex,Ey,Ez,E0,E1,E2,
 E3,E4,E5,E6,E7,E8,E9,Fa,Fb,Fc,Fd,Fe,Ff,F2,F3,F4,F5,Fg,Fh,Fi,Fj,Fk,Fl,Fm,Fn,Fo,Fp],[]⟩ w := by
  conv => arg 2; whnf
  have hs := IntWalk.i64_in ((k : Int) + 1) (by omega)
  clear hk
  go_wp2
  exact hQ _ _

set_option maxRecDepth 100000 in
set_option maxHeartbeats 2000000 in
theorem blkNext3 {Aa Ab Ac Ad Ae Af Ag F6 F7 Ah Ai Aj Ak Al Am An F9 Ao Fq Fr Fs Ft Ap Aq Ar As Au Av Aw Ax Ay Az A0 A1 A2 A3 A4 A5 A6 A7 A8 A9 Ba Bb Bc Bd Be Bf Bg Bh Bi Bj Bk Fu Fv Fw Fx Bl Bm Bn Bo Bp Bq Br Bs Bt Bu Bv Bw Bx Bz B0 B1 B2 B3 B4 B5 B6 B7 B8 B9 Ca Cb Cc Cd Ce Cf Cg Ch Ci Cj Ck Cl Cm Cn Co Cp Cq Cr Cs Ct Cu Cv Cw Cx Cy Cz Fy Fz F0 F1 C0 C1 C2 C3 C4 C5 C6 C7 C8 C9 Da Db Dc Dd De Df Dg Dh Di Dj Dk Dl Dm Dn Dp Dq Dr Ds Dt Du Dv Dw Dx Dy Dz D0 D1 D2 D3 D4 D5 D6 D7 D8 D9 Ea Eb Ec Ed Ee Ef Eg Eh Ei Ej Ek El Em En Eo Ep Er Es Et Eu Ev Ew Ex Ey Ez E0 E1 E2 E3 E4 E5 E6 E7 E8 E9 Fa Fb Fc Fd Fe Ff F2 F3 F4 F5 Fg Fh Fi Fj Fk Fl Fm Fn Fo Fp : Value} (k : Nat) (hk : k < 64) {w : World} {Q : Exit → Act → World → Prop}
    (hQ : ∀ (Gi Gj : Value), Q .normal ⟨#[
 Aa,Ab,Ac,Ad,Ae,Af,Ag,F6,F7,Ah,Ai,Aj,.int .i64 ((k : Int) + 1),Ak,Al,Am,An,F9,Ao,Fq,Fr,Fs,Ft,Ap,Aq,Ar,As,Au,Av,Aw,Ax,
 Ay,Az,A0,A1,A2,A3,A4,A5,A6,A7,A8,A9,Ba,Bb,Bc,Bd,Be,Bf,Bg,Bh,Bi,Bj,Bk,Fu,Fv,Fw,Fx,Bl,Bm,Bn,Bo,Bp,Bq,
 Br,Bs,Bt,Bu,Bv,Bw,Bx,Bz,B0,B1,B2,B3,B4,B5,B6,B7,B8,B9,Ca,Cb,Cc,Cd,Ce,Cf,Cg,Ch,Ci,Cj,Ck,Cl,Cm,Cn,Co,
 Cp,Cq,Cr,Cs,Ct,Cu,Cv,Cw,Cx,Cy,Cz,Fy,Fz,Gi,Gj,C0,C1,C2,C3,C4,C5,C6,C7,C8,C9,Da,Db,Dc,Dd,
 De,Df,Dg,Dh,Di,Dj,Dk,Dl,Dm,Dn,Dp,Dq,Dr,Ds,Dt,Du,Dv,Dw,Dx,Dy,Dz,D0,D1,D2,D3,D4,D5,D6,D7,
 D8,D9,Ea,Eb,Ec,Ed,Ee,Ef,Eg,Eh,Ei,Ej,Ek,El,Em,En,Eo,Ep,Er,Es,Et,Eu,Ev,Ew,Ex,Ey,Ez,E0,E1,
 E2,E3,E4,E5,E6,E7,E8,E9,Fa,Fb,Fc,Fd,Fe,Ff,F2,F3,F4,F5,Fg,Fh,Fi,Fj,Fk,Fl,Fm,Fn,Fo,Fp],[]⟩ (w)) :
    Code.wp Try.prog (blkReg 16) Q ⟨#[
 Aa,Ab,Ac,Ad,Ae,Af,Ag,F6,F7,Ah,Ai,Aj,(.int .i64 (k : Int)),Ak,Al,Am,An,F9,Ao,Fq,Fr,Fs,Ft,Ap,Aq,Ar,As,Au,Av,Aw,Ax,Ay,
 Az,A0,A1,A2,A3,A4,A5,A6,A7,A8,A9,Ba,Bb,Bc,Bd,Be,Bf,Bg,Bh,Bi,Bj,Bk,Fu,Fv,Fw,Fx,Bl,Bm,Bn,Bo,Bp,Bq,Br,
 Bs,Bt,Bu,Bv,Bw,Bx,Bz,B0,B1,B2,B3,B4,B5,B6,B7,B8,B9,Ca,Cb,Cc,Cd,Ce,Cf,Cg,Ch,Ci,Cj,Ck,Cl,Cm,Cn,Co,Cp,
 Cq,Cr,Cs,Ct,Cu,Cv,Cw,Cx,Cy,Cz,Fy,Fz,F0,F1,C0,C1,C2,C3,C4,C5,C6,C7,C8,C9,Da,Db,Dc,Dd,De,
 Df,Dg,Dh,Di,Dj,Dk,Dl,Dm,Dn,Dp,Dq,Dr,Ds,Dt,Du,Dv,Dw,Dx,Dy,Dz,D0,D1,D2,D3,D4,D5,D6,D7,D8,
 D9,Ea,Eb,Ec,Ed,Ee,Ef,Eg,Eh,Ei,Ej,Ek,El,Em,En,Eo,Ep,Er,Es,Et,Eu,Ev,Ew,Ex,Ey,Ez,E0,E1,E2,
 E3,E4,E5,E6,E7,E8,E9,Fa,Fb,Fc,Fd,Fe,Ff,F2,F3,F4,F5,Fg,Fh,Fi,Fj,Fk,Fl,Fm,Fn,Fo,Fp],[]⟩ w := by
  conv => arg 2; whnf
  have hs := IntWalk.i64_in ((k : Int) + 1) (by omega)
  clear hk
  go_wp2
  exact hQ _ _

set_option maxRecDepth 100000 in
set_option maxHeartbeats 2000000 in
theorem blkNext4 {Aa Ab Ac Ad Ae Af Ag F6 F7 Ah Ai Aj F8 Ak Al Am An Ao Fq Fr Fs Ft Ap Aq Ar As Au Av Aw Ax Ay Az A0 A1 A2 A3 A4 A5 A6 A7 A8 A9 Ba Bb Bc Bd Be Bf Bg Bh Bi Bj Bk Fu Fv Fw Fx Bl Bm Bn Bo Bp Bq Br Bs Bt Bu Bv Bw Bx Bz B0 B1 B2 B3 B4 B5 B6 B7 B8 B9 Ca Cb Cc Cd Ce Cf Cg Ch Ci Cj Ck Cl Cm Cn Co Cp Cq Cr Cs Ct Cu Cv Cw Cx Cy Cz Fy Fz F0 F1 C0 C1 C2 C3 C4 C5 C6 C7 C8 C9 Da Db Dc Dd De Df Dg Dh Di Dj Dk Dl Dm Dn Dp Dq Dr Ds Dt Du Dv Dw Dx Dy Dz D0 D1 D2 D3 D4 D5 D6 D7 D8 D9 Ea Eb Ec Ed Ee Ef Eg Eh Ei Ej Ek El Em En Eo Ep Er Es Et Eu Ev Ew Ex Ey Ez E0 E1 E2 E3 E4 E5 E6 E7 E8 E9 Fa Fb Fc Fd Fe Ff F2 F3 F4 F5 Fg Fh Fi Fj Fk Fl Fm Fn Fo Fp : Value} (k : Nat) (hk : k < 64) {w : World} {Q : Exit → Act → World → Prop}
    (hQ : ∀ (Gk Gl : Value), Q .normal ⟨#[
 Aa,Ab,Ac,Ad,Ae,Af,Ag,F6,F7,Ah,Ai,Aj,F8,Ak,Al,Am,An,.int .i64 ((k : Int) + 1),Ao,Fq,Fr,Fs,Ft,Ap,Aq,Ar,As,Au,Av,Aw,Ax,
 Ay,Az,A0,A1,A2,A3,A4,A5,A6,A7,A8,A9,Ba,Bb,Bc,Bd,Be,Bf,Bg,Bh,Bi,Bj,Bk,Fu,Fv,Fw,Fx,Bl,Bm,Bn,Bo,Bp,Bq,
 Br,Bs,Bt,Bu,Bv,Bw,Bx,Bz,B0,B1,B2,B3,B4,B5,B6,B7,B8,B9,Ca,Cb,Cc,Cd,Ce,Cf,Cg,Ch,Ci,Cj,Ck,Cl,Cm,Cn,Co,
 Cp,Cq,Cr,Cs,Ct,Cu,Cv,Cw,Cx,Cy,Cz,Fy,Fz,F0,F1,C0,C1,C2,C3,C4,C5,C6,C7,C8,C9,Da,Db,Dc,Dd,
 De,Df,Dg,Dh,Di,Dj,Dk,Dl,Dm,Dn,Dp,Dq,Dr,Ds,Dt,Du,Dv,Dw,Dx,Dy,Dz,D0,D1,D2,D3,D4,D5,D6,D7,
 D8,D9,Ea,Eb,Ec,Ed,Ee,Ef,Eg,Eh,Ei,Ej,Ek,El,Em,En,Eo,Ep,Er,Es,Et,Eu,Ev,Ew,Ex,Ey,Ez,E0,E1,
 E2,E3,E4,E5,E6,E7,E8,E9,Fa,Fb,Fc,Fd,Fe,Ff,F2,F3,Gk,Gl,Fg,Fh,Fi,Fj,Fk,Fl,Fm,Fn,Fo,Fp],[]⟩ (w)) :
    Code.wp Try.prog (blkReg 24) Q ⟨#[
 Aa,Ab,Ac,Ad,Ae,Af,Ag,F6,F7,Ah,Ai,Aj,F8,Ak,Al,Am,An,(.int .i64 (k : Int)),Ao,Fq,Fr,Fs,Ft,Ap,Aq,Ar,As,Au,Av,Aw,Ax,Ay,
 Az,A0,A1,A2,A3,A4,A5,A6,A7,A8,A9,Ba,Bb,Bc,Bd,Be,Bf,Bg,Bh,Bi,Bj,Bk,Fu,Fv,Fw,Fx,Bl,Bm,Bn,Bo,Bp,Bq,Br,
 Bs,Bt,Bu,Bv,Bw,Bx,Bz,B0,B1,B2,B3,B4,B5,B6,B7,B8,B9,Ca,Cb,Cc,Cd,Ce,Cf,Cg,Ch,Ci,Cj,Ck,Cl,Cm,Cn,Co,Cp,
 Cq,Cr,Cs,Ct,Cu,Cv,Cw,Cx,Cy,Cz,Fy,Fz,F0,F1,C0,C1,C2,C3,C4,C5,C6,C7,C8,C9,Da,Db,Dc,Dd,De,
 Df,Dg,Dh,Di,Dj,Dk,Dl,Dm,Dn,Dp,Dq,Dr,Ds,Dt,Du,Dv,Dw,Dx,Dy,Dz,D0,D1,D2,D3,D4,D5,D6,D7,D8,
 D9,Ea,Eb,Ec,Ed,Ee,Ef,Eg,Eh,Ei,Ej,Ek,El,Em,En,Eo,Ep,Er,Es,Et,Eu,Ev,Ew,Ex,Ey,Ez,E0,E1,E2,
 E3,E4,E5,E6,E7,E8,E9,Fa,Fb,Fc,Fd,Fe,Ff,F2,F3,F4,F5,Fg,Fh,Fi,Fj,Fk,Fl,Fm,Fn,Fo,Fp],[]⟩ w := by
  conv => arg 2; whnf
  have hs := IntWalk.i64_in ((k : Int) + 1) (by omega)
  clear hk
  go_wp2
  exact hQ _ _

set_option maxRecDepth 100000 in
theorem blkBegin1A {T : Array Value} {l0 l1 l2 l4 l5 l6 l7 l8 l9 l10 l11 l12 l13 l14 l15 l16 l17 : Value} {w : World} {Q : Exit → Act → World → Prop} (hL : blkLive T l0 l1 l2 l4 l5 l6 l7 l8 l9 l10 l11 l12 l13 l14 l15 l16 l17)
    (hQ : ∀ (T' : Array Value), blkLive T' l0 l1 l2 l4 l5 l6 (.int .i64 (0)) l8 l9 l10 l11 l12 l13 l14 l15 l16 l17 → Q .normal ⟨T', []⟩ (w)) : Code.wp Try.prog (blkReg 3) Q ⟨T, []⟩ w := by
  rw [blkOut T hL.size]
  rw [hL.s0, hL.s1, hL.s2, hL.s4, hL.s5, hL.s6, hL.s7, hL.s8, hL.s9, hL.s10, hL.s11, hL.s12, hL.s13, hL.s14, hL.s15, hL.s16, hL.s17]
  refine blkBegin1  ?_
  intros
  exact hQ _ ⟨rfl, rfl, rfl, rfl, rfl, rfl, rfl, rfl, rfl, rfl, rfl, rfl, rfl, rfl, rfl, rfl, rfl, rfl⟩

set_option maxRecDepth 100000 in
theorem blkBegin2A {T : Array Value} {l0 l1 l2 l4 l5 l6 l7 l8 l9 l10 l11 l12 l13 l14 l15 l16 l17 : Value} {w : World} {Q : Exit → Act → World → Prop} (hL : blkLive T l0 l1 l2 l4 l5 l6 l7 l8 l9 l10 l11 l12 l13 l14 l15 l16 l17)
    (hQ : ∀ (T' : Array Value), blkLive T' l0 l1 l2 l4 l5 l6 l7 (.int .i64 (16)) l9 l10 l11 l12 l13 l14 l15 l16 l17 → Q .normal ⟨T', []⟩ (w)) : Code.wp Try.prog (blkReg 7) Q ⟨T, []⟩ w := by
  rw [blkOut T hL.size]
  rw [hL.s0, hL.s1, hL.s2, hL.s4, hL.s5, hL.s6, hL.s7, hL.s8, hL.s9, hL.s10, hL.s11, hL.s12, hL.s13, hL.s14, hL.s15, hL.s16, hL.s17]
  refine blkBegin2  ?_
  intros
  exact hQ _ ⟨rfl, rfl, rfl, rfl, rfl, rfl, rfl, rfl, rfl, rfl, rfl, rfl, rfl, rfl, rfl, rfl, rfl, rfl⟩

set_option maxRecDepth 100000 in
theorem blkBegin3A {T : Array Value} {l0 l1 l2 l4 l5 l6 l7 l8 l9 l10 l11 l12 l13 l14 l15 l16 l17 : Value} {w : World} {Q : Exit → Act → World → Prop} (hL : blkLive T l0 l1 l2 l4 l5 l6 l7 l8 l9 l10 l11 l12 l13 l14 l15 l16 l17)
    (hQ : ∀ (T' : Array Value), blkLive T' l0 l1 l2 l4 l5 l6 l7 l8 l9 l10 l11 (.int .i64 (0)) l13 l14 l15 l16 l17 → Q .normal ⟨T', []⟩ (w)) : Code.wp Try.prog (blkReg 14) Q ⟨T, []⟩ w := by
  rw [blkOut T hL.size]
  rw [hL.s0, hL.s1, hL.s2, hL.s4, hL.s5, hL.s6, hL.s7, hL.s8, hL.s9, hL.s10, hL.s11, hL.s12, hL.s13, hL.s14, hL.s15, hL.s16, hL.s17]
  refine blkBegin3  ?_
  intros
  exact hQ _ ⟨rfl, rfl, rfl, rfl, rfl, rfl, rfl, rfl, rfl, rfl, rfl, rfl, rfl, rfl, rfl, rfl, rfl, rfl⟩

set_option maxRecDepth 100000 in
theorem blkBegin4A {T : Array Value} {l0 l1 l2 l4 l5 l6 l7 l8 l9 l10 l11 l12 l13 l14 l15 l16 l17 : Value} {w : World} {Q : Exit → Act → World → Prop} (hL : blkLive T l0 l1 l2 l4 l5 l6 l7 l8 l9 l10 l11 l12 l13 l14 l15 l16 l17)
    (hQ : ∀ (T' : Array Value), blkLive T' l0 l1 l2 l4 l5 l6 l7 l8 l9 l10 l11 l12 l13 l14 l15 l16 (.int .i64 (0)) → Q .normal ⟨T', []⟩ (w)) : Code.wp Try.prog (blkReg 22) Q ⟨T, []⟩ w := by
  rw [blkOut T hL.size]
  rw [hL.s0, hL.s1, hL.s2, hL.s4, hL.s5, hL.s6, hL.s7, hL.s8, hL.s9, hL.s10, hL.s11, hL.s12, hL.s13, hL.s14, hL.s15, hL.s16, hL.s17]
  refine blkBegin4  ?_
  intros
  exact hQ _ ⟨rfl, rfl, rfl, rfl, rfl, rfl, rfl, rfl, rfl, rfl, rfl, rfl, rfl, rfl, rfl, rfl, rfl, rfl⟩

set_option maxRecDepth 100000 in
theorem blkTest1A {T : Array Value} {l0 l1 l2 l4 l5 l6 l8 l9 l10 l11 l12 l13 l14 l15 l16 l17 : Value} (k : Nat) {w : World} {Q : Exit → Act → World → Prop} (hL : blkLive T l0 l1 l2 l4 l5 l6 (.int .i64 (k : Int)) l8 l9 l10 l11 l12 l13 l14 l15 l16 l17)
    (hQ : ∀ (T' : Array Value), blkLive T' l0 l1 l2 l4 l5 l6 (.int .i64 (k : Int)) l8 l9 l10 l11 l12 l13 l14 l15 l16 l17 → T'.getD 20 undef = (.bool (decide ((k : Int) < 16))) → Q .normal ⟨T', []⟩ (w)) : Code.wp Try.prog (blkReg 4) Q ⟨T, []⟩ w := by
  rw [blkOut T hL.size]
  rw [hL.s0, hL.s1, hL.s2, hL.s4, hL.s5, hL.s6, hL.s7, hL.s8, hL.s9, hL.s10, hL.s11, hL.s12, hL.s13, hL.s14, hL.s15, hL.s16, hL.s17]
  refine blkTest1 k ?_
  intros
  exact hQ _ ⟨rfl, rfl, rfl, rfl, rfl, rfl, rfl, rfl, rfl, rfl, rfl, rfl, rfl, rfl, rfl, rfl, rfl, rfl⟩ rfl

set_option maxRecDepth 100000 in
theorem blkTest2A {T : Array Value} {l0 l1 l2 l4 l5 l6 l7 l9 l10 l11 l12 l13 l14 l15 l16 l17 : Value} (k : Nat) {w : World} {Q : Exit → Act → World → Prop} (hL : blkLive T l0 l1 l2 l4 l5 l6 l7 (.int .i64 (k : Int)) l9 l10 l11 l12 l13 l14 l15 l16 l17)
    (hQ : ∀ (T' : Array Value), blkLive T' l0 l1 l2 l4 l5 l6 l7 (.int .i64 (k : Int)) l9 l10 l11 l12 l13 l14 l15 l16 l17 → T'.getD 55 undef = (.bool (decide ((k : Int) < 64))) → Q .normal ⟨T', []⟩ (w)) : Code.wp Try.prog (blkReg 8) Q ⟨T, []⟩ w := by
  rw [blkOut T hL.size]
  rw [hL.s0, hL.s1, hL.s2, hL.s4, hL.s5, hL.s6, hL.s7, hL.s8, hL.s9, hL.s10, hL.s11, hL.s12, hL.s13, hL.s14, hL.s15, hL.s16, hL.s17]
  refine blkTest2 k ?_
  intros
  exact hQ _ ⟨rfl, rfl, rfl, rfl, rfl, rfl, rfl, rfl, rfl, rfl, rfl, rfl, rfl, rfl, rfl, rfl, rfl, rfl⟩ rfl

set_option maxRecDepth 100000 in
theorem blkTest3A {T : Array Value} {l0 l1 l2 l4 l5 l6 l7 l8 l9 l10 l11 l13 l14 l15 l16 l17 : Value} (k : Nat) {w : World} {Q : Exit → Act → World → Prop} (hL : blkLive T l0 l1 l2 l4 l5 l6 l7 l8 l9 l10 l11 (.int .i64 (k : Int)) l13 l14 l15 l16 l17)
    (hQ : ∀ (T' : Array Value), blkLive T' l0 l1 l2 l4 l5 l6 l7 l8 l9 l10 l11 (.int .i64 (k : Int)) l13 l14 l15 l16 l17 → T'.getD 109 undef = (.bool (decide ((k : Int) < 64))) → Q .normal ⟨T', []⟩ (w)) : Code.wp Try.prog (blkReg 15) Q ⟨T, []⟩ w := by
  rw [blkOut T hL.size]
  rw [hL.s0, hL.s1, hL.s2, hL.s4, hL.s5, hL.s6, hL.s7, hL.s8, hL.s9, hL.s10, hL.s11, hL.s12, hL.s13, hL.s14, hL.s15, hL.s16, hL.s17]
  refine blkTest3 k ?_
  intros
  exact hQ _ ⟨rfl, rfl, rfl, rfl, rfl, rfl, rfl, rfl, rfl, rfl, rfl, rfl, rfl, rfl, rfl, rfl, rfl, rfl⟩ rfl

set_option maxRecDepth 100000 in
theorem blkTest4A {T : Array Value} {l0 l1 l2 l4 l5 l6 l7 l8 l9 l10 l11 l12 l13 l14 l15 l16 : Value} (k : Nat) {w : World} {Q : Exit → Act → World → Prop} (hL : blkLive T l0 l1 l2 l4 l5 l6 l7 l8 l9 l10 l11 l12 l13 l14 l15 l16 (.int .i64 (k : Int)))
    (hQ : ∀ (T' : Array Value), blkLive T' l0 l1 l2 l4 l5 l6 l7 l8 l9 l10 l11 l12 l13 l14 l15 l16 (.int .i64 (k : Int)) → T'.getD 199 undef = (.bool (decide ((k : Int) < 8))) → Q .normal ⟨T', []⟩ (w)) : Code.wp Try.prog (blkReg 23) Q ⟨T, []⟩ w := by
  rw [blkOut T hL.size]
  rw [hL.s0, hL.s1, hL.s2, hL.s4, hL.s5, hL.s6, hL.s7, hL.s8, hL.s9, hL.s10, hL.s11, hL.s12, hL.s13, hL.s14, hL.s15, hL.s16, hL.s17]
  refine blkTest4 k ?_
  intros
  exact hQ _ ⟨rfl, rfl, rfl, rfl, rfl, rfl, rfl, rfl, rfl, rfl, rfl, rfl, rfl, rfl, rfl, rfl, rfl, rfl⟩ rfl

set_option maxRecDepth 100000 in
theorem blkNext1A {T : Array Value} {l0 l1 l2 l4 l5 l6 l8 l9 l10 l11 l12 l13 l14 l15 l16 l17 : Value} (k : Nat) (hk : k < 64) {w : World} {Q : Exit → Act → World → Prop} (hL : blkLive T l0 l1 l2 l4 l5 l6 (.int .i64 (k : Int)) l8 l9 l10 l11 l12 l13 l14 l15 l16 l17)
    (hQ : ∀ (T' : Array Value), blkLive T' l0 l1 l2 l4 l5 l6 (.int .i64 ((k : Int) + 1)) l8 l9 l10 l11 l12 l13 l14 l15 l16 l17 → Q .normal ⟨T', []⟩ (w)) : Code.wp Try.prog (blkReg 5) Q ⟨T, []⟩ w := by
  rw [blkOut T hL.size]
  rw [hL.s0, hL.s1, hL.s2, hL.s4, hL.s5, hL.s6, hL.s7, hL.s8, hL.s9, hL.s10, hL.s11, hL.s12, hL.s13, hL.s14, hL.s15, hL.s16, hL.s17]
  refine blkNext1 k hk ?_
  intros
  exact hQ _ ⟨rfl, rfl, rfl, rfl, rfl, rfl, rfl, rfl, rfl, rfl, rfl, rfl, rfl, rfl, rfl, rfl, rfl, rfl⟩

set_option maxRecDepth 100000 in
theorem blkNext2A {T : Array Value} {l0 l1 l2 l4 l5 l6 l7 l9 l10 l11 l12 l13 l14 l15 l16 l17 : Value} (k : Nat) (hk : k < 64) {w : World} {Q : Exit → Act → World → Prop} (hL : blkLive T l0 l1 l2 l4 l5 l6 l7 (.int .i64 (k : Int)) l9 l10 l11 l12 l13 l14 l15 l16 l17)
    (hQ : ∀ (T' : Array Value), blkLive T' l0 l1 l2 l4 l5 l6 l7 (.int .i64 ((k : Int) + 1)) l9 l10 l11 l12 l13 l14 l15 l16 l17 → Q .normal ⟨T', []⟩ (w)) : Code.wp Try.prog (blkReg 9) Q ⟨T, []⟩ w := by
  rw [blkOut T hL.size]
  rw [hL.s0, hL.s1, hL.s2, hL.s4, hL.s5, hL.s6, hL.s7, hL.s8, hL.s9, hL.s10, hL.s11, hL.s12, hL.s13, hL.s14, hL.s15, hL.s16, hL.s17]
  refine blkNext2 k hk ?_
  intros
  exact hQ _ ⟨rfl, rfl, rfl, rfl, rfl, rfl, rfl, rfl, rfl, rfl, rfl, rfl, rfl, rfl, rfl, rfl, rfl, rfl⟩

set_option maxRecDepth 100000 in
theorem blkNext3A {T : Array Value} {l0 l1 l2 l4 l5 l6 l7 l8 l9 l10 l11 l13 l14 l15 l16 l17 : Value} (k : Nat) (hk : k < 64) {w : World} {Q : Exit → Act → World → Prop} (hL : blkLive T l0 l1 l2 l4 l5 l6 l7 l8 l9 l10 l11 (.int .i64 (k : Int)) l13 l14 l15 l16 l17)
    (hQ : ∀ (T' : Array Value), blkLive T' l0 l1 l2 l4 l5 l6 l7 l8 l9 l10 l11 (.int .i64 ((k : Int) + 1)) l13 l14 l15 l16 l17 → Q .normal ⟨T', []⟩ (w)) : Code.wp Try.prog (blkReg 16) Q ⟨T, []⟩ w := by
  rw [blkOut T hL.size]
  rw [hL.s0, hL.s1, hL.s2, hL.s4, hL.s5, hL.s6, hL.s7, hL.s8, hL.s9, hL.s10, hL.s11, hL.s12, hL.s13, hL.s14, hL.s15, hL.s16, hL.s17]
  refine blkNext3 k hk ?_
  intros
  exact hQ _ ⟨rfl, rfl, rfl, rfl, rfl, rfl, rfl, rfl, rfl, rfl, rfl, rfl, rfl, rfl, rfl, rfl, rfl, rfl⟩

set_option maxRecDepth 100000 in
theorem blkNext4A {T : Array Value} {l0 l1 l2 l4 l5 l6 l7 l8 l9 l10 l11 l12 l13 l14 l15 l16 : Value} (k : Nat) (hk : k < 64) {w : World} {Q : Exit → Act → World → Prop} (hL : blkLive T l0 l1 l2 l4 l5 l6 l7 l8 l9 l10 l11 l12 l13 l14 l15 l16 (.int .i64 (k : Int)))
    (hQ : ∀ (T' : Array Value), blkLive T' l0 l1 l2 l4 l5 l6 l7 l8 l9 l10 l11 l12 l13 l14 l15 l16 (.int .i64 ((k : Int) + 1)) → Q .normal ⟨T', []⟩ (w)) : Code.wp Try.prog (blkReg 24) Q ⟨T, []⟩ w := by
  rw [blkOut T hL.size]
  rw [hL.s0, hL.s1, hL.s2, hL.s4, hL.s5, hL.s6, hL.s7, hL.s8, hL.s9, hL.s10, hL.s11, hL.s12, hL.s13, hL.s14, hL.s15, hL.s16, hL.s17]
  refine blkNext4 k hk ?_
  intros
  exact hQ _ ⟨rfl, rfl, rfl, rfl, rfl, rfl, rfl, rfl, rfl, rfl, rfl, rfl, rfl, rfl, rfl, rfl, rfl, rfl⟩

end Go.Proofs.Ytpjfhbmegabafaa
