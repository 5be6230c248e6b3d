/- The regions of sha.mix, one by one. Made by tools/regions.py.
   Regions of sha.mix, one by one. Made by tools/regions.py. -/
import Derived.Test.YtpjfhbmegabafaaLBlkBase
namespace Go.Proofs.Ytpjfhbmegabafaa
open Go.RowKit
attribute [local go_sem] u_add u_wrap_add u_or u_and u_xor

theorem u_shl24 (x : BitVec 32) : u x * (16777216 : Int) % 4294967296 = u (x <<< 24) := u_shl x 24
theorem u_shl16 (x : BitVec 32) : u x * (65536 : Int) % 4294967296 = u (x <<< 16) := u_shl x 16
theorem u_shl8 (x : BitVec 32) : u x * (256 : Int) % 4294967296 = u (x <<< 8) := u_shl x 8
theorem u_byte24 (x : BitVec 32) (h : 0 ≤ u x ∧ u x ≤ 255) : u x * (16777216 : Int) = u (x <<< 24) := by
  rw [← u_shl24]
  omega
theorem u_byte16 (x : BitVec 32) (h : 0 ≤ u x ∧ u x ≤ 255) : u x * (65536 : Int) = u (x <<< 16) := by
  rw [← u_shl16]
  omega
theorem u_byte8 (x : BitVec 32) (h : 0 ≤ u x ∧ u x ≤ 255) : u x * (256 : Int) = u (x <<< 8) := by
  rw [← u_shl8]
  omega

/-- A table of 64 words that are 0. -/
def z64 : Array Value := Array.replicate 64 (.int .u32 0)
theorem z64_le : 0 + 64 ≤ z64.toList.length := by decide

/-- The region of this number. -/
def mixFind (n : Nat) : Code → Option Code
  | .region i ops d => if i = n then some (.region i ops d) else none
  | .loop c => mixFind n c
  | .block _ c => mixFind n c
  | .scope c => mixFind n c
  | .seq a b => match mixFind n a with
    | some c => some c
    | none => mixFind n b
  | .cond _ a b => match mixFind n a with
    | some c => some c
    | none => mixFind n b
  | _ => none
noncomputable def mixReg (n : Nat) : Code := ((Try.f98.body.bind (mixFind n)).getD .skip)

theorem mixArray (T : Array Value) (n : Nat) (h : T.size = n) : T = ((List.range n).map fun i => T.getD i undef).toArray := by
  subst h
  apply Array.ext
  · simp
  · intro i h1 h2
    simp [Array.getElem?_eq_getElem h1]

set_option maxRecDepth 100000 in
theorem mixOut (T : Array Value) (h : T.size = 396) : T =
    #[T.getD 0 undef, T.getD 1 undef, T.getD 2 undef, T.getD 3 undef, T.getD 4 undef, T.getD 5 undef, T.getD 6 undef, T.getD 7 undef, T.getD 8 undef, T.getD 9 undef, T.getD 10 undef, T.getD 11 undef,
    T.getD 12 undef, T.getD 13 undef, T.getD 14 undef, T.getD 15 undef, T.getD 16 undef, T.getD 17 undef, T.getD 18 undef, T.getD 19 undef, T.getD 20 undef, T.getD 21 undef, T.getD 22 undef, T.getD 23
    undef, T.getD 24 undef, T.getD 25 undef, T.getD 26 undef, T.getD 27 undef, T.getD 28 undef, T.getD 29 undef, T.getD 30 undef, T.getD 31 undef, T.getD 32 undef, T.getD 33 undef, T.getD 34 undef,
    T.getD 35 undef, T.getD 36 undef, T.getD 37 undef, T.getD 38 undef, T.getD 39 undef, T.getD 40 undef, T.getD 41 undef, T.getD 42 undef, T.getD 43 undef, T.getD 44 undef, T.getD 45 undef, T.getD 46
    undef, T.getD 47 undef, T.getD 48 undef, T.getD 49 undef, T.getD 50 undef, T.getD 51 undef, T.getD 52 undef, T.getD 53 undef, T.getD 54 undef, T.getD 55 undef, T.getD 56 undef, T.getD 57 undef,
    T.getD 58 undef, T.getD 59 undef, T.getD 60 undef, T.getD 61 undef, T.getD 62 undef, T.getD 63 undef, T.getD 64 undef, T.getD 65 undef, T.getD 66 undef, T.getD 67 undef, T.getD 68 undef, T.getD 69
    undef, T.getD 70 undef, T.getD 71 undef, T.getD 72 undef, T.getD 73 undef, T.getD 74 undef, T.getD 75 undef, T.getD 76 undef, T.getD 77 undef, T.getD 78 undef, T.getD 79 undef, T.getD 80 undef,
    T.getD 81 undef, T.getD 82 undef, T.getD 83 undef, T.getD 84 undef, T.getD 85 undef, T.getD 86 undef, T.getD 87 undef, T.getD 88 undef, T.getD 89 undef, T.getD 90 undef, T.getD 91 undef, T.getD 92
    undef, T.getD 93 undef, T.getD 94 undef, T.getD 95 undef, T.getD 96 undef, T.getD 97 undef, T.getD 98 undef, T.getD 99 undef, T.getD 100 undef, T.getD 101 undef, T.getD 102 undef, T.getD 103
    undef, T.getD 104 undef, T.getD 105 undef, T.getD 106 undef, T.getD 107 undef, T.getD 108 undef, T.getD 109 undef, T.getD 110 undef, T.getD 111 undef, T.getD 112 undef, T.getD 113 undef, T.getD
    114 undef, T.getD 115 undef, T.getD 116 undef, T.getD 117 undef, T.getD 118 undef, T.getD 119 undef, T.getD 120 undef, T.getD 121 undef, T.getD 122 undef, T.getD 123 undef, T.getD 124 undef,
    T.getD 125 undef, T.getD 126 undef, T.getD 127 undef, T.getD 128 undef, T.getD 129 undef, T.getD 130 undef, T.getD 131 undef, T.getD 132 undef, T.getD 133 undef, T.getD 134 undef, T.getD 135
    undef, T.getD 136 undef, T.getD 137 undef, T.getD 138 undef, T.getD 139 undef, T.getD 140 undef, T.getD 141 undef, T.getD 142 undef, T.getD 143 undef, T.getD 144 undef, T.getD 145 undef, T.getD
    146 undef, T.getD 147 undef, T.getD 148 undef, T.getD 149 undef, T.getD 150 undef, T.getD 151 undef, T.getD 152 undef, T.getD 153 undef, T.getD 154 undef, T.getD 155 undef, T.getD 156 undef,
    T.getD 157 undef, T.getD 158 undef, T.getD 159 undef, T.getD 160 undef, T.getD 161 undef, T.getD 162 undef, T.getD 163 undef, T.getD 164 undef, T.getD 165 undef, T.getD 166 undef, T.getD 167
    undef, T.getD 168 undef, T.getD 169 undef, T.getD 170 undef, T.getD 171 undef, T.getD 172 undef, T.getD 173 undef, T.getD 174 undef, T.getD 175 undef, T.getD 176 undef, T.getD 177 undef, T.getD
    178 undef, T.getD 179 undef, T.getD 180 undef, T.getD 181 undef, T.getD 182 undef, T.getD 183 undef, T.getD 184 undef, T.getD 185 undef, T.getD 186 undef, T.getD 187 undef, T.getD 188 undef,
    T.getD 189 undef, T.getD 190 undef, T.getD 191 undef, T.getD 192 undef, T.getD 193 undef, T.getD 194 undef, T.getD 195 undef, T.getD 196 undef, T.getD 197 undef, T.getD 198 undef, T.getD 199
    undef, T.getD 200 undef, T.getD 201 undef, T.getD 202 undef, T.getD 203 undef, T.getD 204 undef, T.getD 205 undef, T.getD 206 undef, T.getD 207 undef, T.getD 208 undef, T.getD 209 undef, T.getD
    210 undef, T.getD 211 undef, T.getD 212 undef, T.getD 213 undef, T.getD 214 undef, T.getD 215 undef, T.getD 216 undef, T.getD 217 undef, T.getD 218 undef, T.getD 219 undef, T.getD 220 undef,
    T.getD 221 undef, T.getD 222 undef, T.getD 223 undef, T.getD 224 undef, T.getD 225 undef, T.getD 226 undef, T.getD 227 undef, T.getD 228 undef, T.getD 229 undef, T.getD 230 undef, T.getD 231
    undef, T.getD 232 undef, T.getD 233 undef, T.getD 234 undef, T.getD 235 undef, T.getD 236 undef, T.getD 237 undef, T.getD 238 undef, T.getD 239 undef, T.getD 240 undef, T.getD 241 undef, T.getD
    242 undef, T.getD 243 undef, T.getD 244 undef, T.getD 245 undef, T.getD 246 undef, T.getD 247 undef, T.getD 248 undef, T.getD 249 undef, T.getD 250 undef, T.getD 251 undef, T.getD 252 undef,
    T.getD 253 undef, T.getD 254 undef, T.getD 255 undef, T.getD 256 undef, T.getD 257 undef, T.getD 258 undef, T.getD 259 undef, T.getD 260 undef, T.getD 261 undef, T.getD 262 undef, T.getD 263
    undef, T.getD 264 undef, T.getD 265 undef, T.getD 266 undef, T.getD 267 undef, T.getD 268 undef, T.getD 269 undef, T.getD 270 undef, T.getD 271 undef, T.getD 272 undef, T.getD 273 undef, T.getD
    274 undef, T.getD 275 undef, T.getD 276 undef, T.getD 277 undef, T.getD 278 undef, T.getD 279 undef, T.getD 280 undef, T.getD 281 undef, T.getD 282 undef, T.getD 283 undef, T.getD 284 undef,
    T.getD 285 undef, T.getD 286 undef, T.getD 287 undef, T.getD 288 undef, T.getD 289 undef, T.getD 290 undef, T.getD 291 undef, T.getD 292 undef, T.getD 293 undef, T.getD 294 undef, T.getD 295
    undef, T.getD 296 undef, T.getD 297 undef, T.getD 298 undef, T.getD 299 undef, T.getD 300 undef, T.getD 301 undef, T.getD 302 undef, T.getD 303 undef, T.getD 304 undef, T.getD 305 undef, T.getD
    306 undef, T.getD 307 undef, T.getD 308 undef, T.getD 309 undef, T.getD 310 undef, T.getD 311 undef, T.getD 312 undef, T.getD 313 undef, T.getD 314 undef, T.getD 315 undef, T.getD 316 undef,
    T.getD 317 undef, T.getD 318 undef, T.getD 319 undef, T.getD 320 undef, T.getD 321 undef, T.getD 322 undef, T.getD 323 undef, T.getD 324 undef, T.getD 325 undef, T.getD 326 undef, T.getD 327
    undef, T.getD 328 undef, T.getD 329 undef, T.getD 330 undef, T.getD 331 undef, T.getD 332 undef, T.getD 333 undef, T.getD 334 undef, T.getD 335 undef, T.getD 336 undef, T.getD 337 undef, T.getD
    338 undef, T.getD 339 undef, T.getD 340 undef, T.getD 341 undef, T.getD 342 undef, T.getD 343 undef, T.getD 344 undef, T.getD 345 undef, T.getD 346 undef, T.getD 347 undef, T.getD 348 undef,
    T.getD 349 undef, T.getD 350 undef, T.getD 351 undef, T.getD 352 undef, T.getD 353 undef, T.getD 354 undef, T.getD 355 undef, T.getD 356 undef, T.getD 357 undef, T.getD 358 undef, T.getD 359
    undef, T.getD 360 undef, T.getD 361 undef, T.getD 362 undef, T.getD 363 undef, T.getD 364 undef, T.getD 365 undef, T.getD 366 undef, T.getD 367 undef, T.getD 368 undef, T.getD 369 undef, T.getD
    370 undef, T.getD 371 undef, T.getD 372 undef, T.getD 373 undef, T.getD 374 undef, T.getD 375 undef, T.getD 376 undef, T.getD 377 undef, T.getD 378 undef, T.getD 379 undef, T.getD 380 undef,
    T.getD 381 undef, T.getD 382 undef, T.getD 383 undef, T.getD 384 undef, T.getD 385 undef, T.getD 386 undef, T.getD 387 undef, T.getD 388 undef, T.getD 389 undef, T.getD 390 undef, T.getD 391
    undef, T.getD 392 undef, T.getD 393 undef, T.getD 394 undef, T.getD 395 undef] := mixArray T 396 h

/-- What of a frame is read later. -/
structure mixLive (T : Array Value) (l0 l1 l4 l5 l6 l7 l8 l9 l10 l11 l12 l13 l14 l15 l16 l17 l18 l20 : Value) : Prop where
  size : T.size = 396
  s0 : T.getD 0 undef = l0
  s1 : T.getD 1 undef = l1
  s4 : T.getD 4 undef = l4
  s5 : T.getD 5 undef = l5
  s6 : T.getD 6 undef = l6
  s7 : T.getD 7 undef = l7
  s8 : T.getD 8 undef = l8
  s9 : T.getD 9 undef = l9
  s10 : T.getD 10 undef = l10
  s11 : T.getD 11 undef = l11
  s12 : T.getD 12 undef = l12
  s13 : T.getD 13 undef = l13
  s14 : T.getD 14 undef = l14
  s15 : T.getD 15 undef = l15
  s16 : T.getD 16 undef = l16
  s17 : T.getD 17 undef = l17
  s18 : T.getD 18 undef = l18
  s20 : T.getD 20 undef = l20

end Go.Proofs.Ytpjfhbmegabafaa
namespace Go.Proofs.Ytpjfhbmegabafaa
open Go.RowKit
attribute [local go_sem] u_add u_wrap_add u_or u_and u_xor

set_option maxRecDepth 100000 in
set_option maxHeartbeats 2000000 in
theorem mixWord {Aa Ab Ac Ad Ae Af Ag Ah Ai Aj Ak Al Am An Ao Ap Aq Ar As Au Kc Kd Ke Kf Kg Kh Ki Kj Kk Kl Km Kn Ko Kp Kq Kr Ks Kt Ku Kv Kw Kx Ky Kz K0 K1 K2 K3 K4 K5 K6 K7 K8 K9 La Lb Lc Ld Le Av Aw Ax Ay Az A0 A1 A2 A3 A4 A5 A6 A7 A8 A9 Ba Bb Bc Bd Be Bf Bg Bh Bi Bj Bk Bl Bm Bn Bo Bp Bq Br Bs Bt Bu Bv Bw Bx Bz B0 B1 B2 B3 B4 B5 B6 B7 B8 B9 Ca Cb Cc Cd Ce Cf Cg Ch Ci Cj Ck Cl Cm Cn Co Cp Cq Cr Cs Ct Cu Cv Cw Cx Cy Cz C0 C1 C2 C3 C4 C5 C6 C7 C8 C9 Da Db Dc Dd De Df Dg Dh Di Dj Dk Dl Dm Dn Dp Dq Dr Ds Dt Du Dv Dw Dx Dy Dz D0 D1 D2 D3 D4 D5 D6 D7 D8 D9 Ea Eb Ec Ed Ee Ef Eg Eh Ei Ej Ek El Em En Eo Ep Er Es Et Eu Ev Ew Ex Ey Ez E0 E1 E2 E3 E4 E5 E6 E7 E8 E9 Fa Fb Fc Fd Fe Ff Fg Fh Fi Fj Fk Fl Fm Fn Fo Fp Fq Fr Fs Ft Fu Fv Fw Fx Fy Fz F0 F1 F2 F3 F4 F5 F6 F7 F8 F9 Ga Gb Gc Gd Ge Gf Gg Gh Gi Gj Gk Gl Gm Gn Gp Gq Gr Gs Gt Gu Gv Gw Gx Gy Gz G0 G1 G2 G3 G4 G5 G6 G7 G8 G9 Ha Hb Hc Hd He Hf Hg Hh Hi Hj Hk Hl Hm Hn Ho Hp Hq Hr Hs Ht Hu Hv Hw Hx Hy Hz H0 H1 H2 H3 H4 H5 H6 H7 H8 H9 Ia Ib Ic Ie Ig Ih Ii Ij Ik Il Im Io Ip Iq Ir Is It Iu Iv Iw Ix Iy Iz I0 I1 I2 I3 I4 I5 I6 I7 I8 I9 Ja Jb Jc Jd Je Jf Jg Jh Ji Jj Jk Jl Jm Jn Jo Jp Jq Jr Js Jt Ju Jv Jw Jx Jy Jz J0 J1 J2 J3 J4 J5 J6 J7 J8 J9 Ka Kb : Value} (x0 x1 x2 x3 : BitVec 32) (g BW k : Nat) (hk : k < 16) {w : World} (v0 : Value) (c0 : w.cell? ⟨g, 8 + 4 * k, none⟩ = some (.int .u8 (u x0))) (c1 : w.cell? ⟨g, 8 + (4 * k + 1), none⟩ = some (.int .u8 (u x1))) (c2 : w.cell? ⟨g, 8 + (4 * k + 2), none⟩ = some (.int .u8 (u x2))) (c3 : w.cell? ⟨g, 8 + (4 * k + 3), none⟩ = some (.int .u8 (u x3)))
    (b0 : 0 ≤ u x0 ∧ u x0 ≤ 255) (b1 : 0 ≤ u x1 ∧ u x1 ≤ 255) (b2 : 0 ≤ u x2 ∧ u x2 ≤ 255) (b3 : 0 ≤ u x3 ∧ u x3 ≤ 255) (cw : w.cell? ⟨BW, k, none⟩ = some v0) (cf : w.frozen? ⟨BW, k, none⟩ = false) {Q : Exit → Act → World → Prop}
    (hQ : ∀ (Lf Lg Lh Li Lj Lk Ll Lm Ln Lo Lp Lq Lr Ls Lt Lu Lv Lw Lx Ly Lz L0 L1 L2 L3 L4 L5 L6 L7 L8 L9 Ma Mb Mc Md Me Mf Mg Mh : Value), Q .normal ⟨#[
 Aa,(.pointer (some ⟨g,8,none⟩)),Ab,Ac,Ad,(.pointer (some ⟨BW,0,none⟩)),(.int .i64 (k : Int)),Ae,Af,Ag,Ah,Ai,Aj,Ak,Al,Am,An,Ao,Ap,Aq,Ar,As,Au,
 Lf,Lg,Lh,Li,Lj,Lk,Ll,Lm,Ln,Lo,Lp,Lq,Lr,Ls,Lt,Lu,Lv,Lw,Lx,Ly,Lz,L0,L1,L2,L3,L4,L5,L6,L7,L8,L9,Ma,Mb,
 Mc,Md,Me,Mf,Mg,Mh,Av,Aw,Ax,Ay,Az,A0,A1,A2,A3,A4,A5,A6,A7,A8,A9,Ba,Bb,Bc,Bd,Be,Bf,Bg,Bh,Bi,Bj,Bk,Bl,
 Bm,Bn,Bo,Bp,Bq,Br,Bs,Bt,Bu,Bv,Bw,Bx,Bz,B0,B1,B2,B3,B4,B5,B6,B7,B8,B9,Ca,Cb,Cc,Cd,Ce,Cf,Cg,
 Ch,Ci,Cj,Ck,Cl,Cm,Cn,Co,Cp,Cq,Cr,Cs,Ct,Cu,Cv,Cw,Cx,Cy,Cz,C0,C1,C2,C3,C4,C5,C6,C7,C8,C9,
 Da,Db,Dc,Dd,De,Df,Dg,Dh,Di,Dj,Dk,Dl,Dm,Dn,Dp,Dq,Dr,Ds,Dt,Du,Dv,Dw,Dx,Dy,Dz,D0,D1,D2,D3,
 D4,D5,D6,D7,D8,D9,Ea,Eb,Ec,Ed,Ee,Ef,Eg,Eh,Ei,Ej,Ek,El,Em,En,Eo,Ep,Er,Es,Et,Eu,Ev,Ew,Ex,
 Ey,Ez,E0,E1,E2,E3,E4,E5,E6,E7,E8,E9,Fa,Fb,Fc,Fd,Fe,Ff,Fg,Fh,Fi,Fj,Fk,Fl,Fm,Fn,Fo,Fp,Fq,
 Fr,Fs,Ft,Fu,Fv,Fw,Fx,Fy,Fz,F0,F1,F2,F3,F4,F5,F6,F7,F8,F9,Ga,Gb,Gc,Gd,Ge,Gf,Gg,Gh,Gi,Gj,
 Gk,Gl,Gm,Gn,Gp,Gq,Gr,Gs,Gt,Gu,Gv,Gw,Gx,Gy,Gz,G0,G1,G2,G3,G4,G5,G6,G7,G8,G9,Ha,Hb,Hc,Hd,
 He,Hf,Hg,Hh,Hi,Hj,Hk,Hl,Hm,Hn,Ho,Hp,Hq,Hr,Hs,Ht,Hu,Hv,Hw,Hx,Hy,Hz,H0,H1,H2,H3,H4,H5,H6,
 H7,H8,H9,Ia,Ib,Ic,Ie,Ig,Ih,Ii,Ij,Ik,Il,Im,Io,Ip,Iq,Ir,Is,It,Iu,Iv,Iw,Ix,Iy,Iz,I0,I1,I2,
 I3,I4,I5,I6,I7,I8,I9,Ja,Jb,Jc,Jd,Je,Jf,Jg,Jh,Ji,Jj,Jk,Jl,Jm,Jn,Jo,Jp,Jq,Jr,Js,Jt,Ju,Jv,
 Jw,Jx,Jy,Jz,J0,J1,J2,J3,J4,J5,J6,J7,J8,J9,Ka,Kb],[]⟩ ((w.setCell ⟨BW,k,none⟩ (.int .u32 (u (x0 <<< 24 ||| x1 <<< 16 ||| x2 <<< 8 ||| x3)))).drew)) :
    Code.wp Try.prog (mixReg 5) Q ⟨#[
 Aa,(.pointer (some ⟨g,8,none⟩)),Ab,Ac,Ad,(.pointer (some ⟨BW,0,none⟩)),(.int .i64 (k : Int)),Ae,Af,Ag,Ah,Ai,Aj,Ak,Al,Am,An,Ao,Ap,Aq,Ar,As,Au,
 Kc,Kd,Ke,Kf,Kg,Kh,Ki,Kj,Kk,Kl,Km,Kn,Ko,Kp,Kq,Kr,Ks,Kt,Ku,Kv,Kw,Kx,Ky,Kz,K0,K1,K2,K3,K4,K5,K6,K7,K8,
 K9,La,Lb,Lc,Ld,Le,Av,Aw,Ax,Ay,Az,A0,A1,A2,A3,A4,A5,A6,A7,A8,A9,Ba,Bb,Bc,Bd,Be,Bf,Bg,Bh,Bi,Bj,Bk,Bl,
 Bm,Bn,Bo,Bp,Bq,Br,Bs,Bt,Bu,Bv,Bw,Bx,Bz,B0,B1,B2,B3,B4,B5,B6,B7,B8,B9,Ca,Cb,Cc,Cd,Ce,Cf,Cg,
 Ch,Ci,Cj,Ck,Cl,Cm,Cn,Co,Cp,Cq,Cr,Cs,Ct,Cu,Cv,Cw,Cx,Cy,Cz,C0,C1,C2,C3,C4,C5,C6,C7,C8,C9,
 Da,Db,Dc,Dd,De,Df,Dg,Dh,Di,Dj,Dk,Dl,Dm,Dn,Dp,Dq,Dr,Ds,Dt,Du,Dv,Dw,Dx,Dy,Dz,D0,D1,D2,D3,
 D4,D5,D6,D7,D8,D9,Ea,Eb,Ec,Ed,Ee,Ef,Eg,Eh,Ei,Ej,Ek,El,Em,En,Eo,Ep,Er,Es,Et,Eu,Ev,Ew,Ex,
 Ey,Ez,E0,E1,E2,E3,E4,E5,E6,E7,E8,E9,Fa,Fb,Fc,Fd,Fe,Ff,Fg,Fh,Fi,Fj,Fk,Fl,Fm,Fn,Fo,Fp,Fq,
 Fr,Fs,Ft,Fu,Fv,Fw,Fx,Fy,Fz,F0,F1,F2,F3,F4,F5,F6,F7,F8,F9,Ga,Gb,Gc,Gd,Ge,Gf,Gg,Gh,Gi,Gj,
 Gk,Gl,Gm,Gn,Gp,Gq,Gr,Gs,Gt,Gu,Gv,Gw,Gx,Gy,Gz,G0,G1,G2,G3,G4,G5,G6,G7,G8,G9,Ha,Hb,Hc,Hd,
 He,Hf,Hg,Hh,Hi,Hj,Hk,Hl,Hm,Hn,Ho,Hp,Hq,Hr,Hs,Ht,Hu,Hv,Hw,Hx,Hy,Hz,H0,H1,H2,H3,H4,H5,H6,
 H7,H8,H9,Ia,Ib,Ic,Ie,Ig,Ih,Ii,Ij,Ik,Il,Im,Io,Ip,Iq,Ir,Is,It,Iu,Iv,Iw,Ix,Iy,Iz,I0,I1,I2,
 I3,I4,I5,I6,I7,I8,I9,Ja,Jb,Jc,Jd,Je,Jf,Jg,Jh,Ji,Jj,Jk,Jl,Jm,Jn,Jo,Jp,Jq,Jr,Js,Jt,Ju,Jv,
 Jw,Jx,Jy,Jz,J0,J1,J2,J3,J4,J5,J6,J7,J8,J9,Ka,Kb],[]⟩ w := by
  conv => arg 2; whnf
  have s0 : IntKind.i64.wrap (4 * (k : Int)) = 4 * (k : Int) := IntWalk.i64_in _ (by omega)
  have p0 : 0 ≤ 4 * (k : Int) := by omega
  have q0 : 4 * (k : Int) < 64 := by omega
  have n0 : (4 * (k : Int)).toNat = 4 * k := by omega
  have s1 : IntKind.i64.wrap (4 * (k : Int) + 1) = 4 * (k : Int) + 1 := IntWalk.i64_in _ (by omega)
  have p1 : 0 ≤ 4 * (k : Int) + 1 := by omega
  have q1 : 4 * (k : Int) + 1 < 64 := by omega
  have n1 : (4 * (k : Int) + 1).toNat = 4 * k + 1 := by omega
  have s2 : IntKind.i64.wrap (4 * (k : Int) + 2) = 4 * (k : Int) + 2 := IntWalk.i64_in _ (by omega)
  have p2 : 0 ≤ 4 * (k : Int) + 2 := by omega
  have q2 : 4 * (k : Int) + 2 < 64 := by omega
  have n2 : (4 * (k : Int) + 2).toNat = 4 * k + 2 := by omega
  have s3 : IntKind.i64.wrap (4 * (k : Int) + 3) = 4 * (k : Int) + 3 := IntWalk.i64_in _ (by omega)
  have p3 : 0 ≤ 4 * (k : Int) + 3 := by omega
  have q3 : 4 * (k : Int) + 3 < 64 := by omega
  have n3 : (4 * (k : Int) + 3).toNat = 4 * k + 3 := by omega
  have q4 : (k : Int) < 64 := by omega
  go_still_tail 39, (by kernel_rfl)
  clear s0 s1 s2 s3 n0 n1 n2 n3
  change wpList _ _ _ _ _ w.drew
  go_wp2
  rw [u_byte24 x0 b0, u_byte16 x1 b1, u_byte8 x2 b2, u_or, u_or, u_or]
  exact hQ _ _ _ _ _ _ _ _ _ _ _ _ _ _ _ _ _ _ _ _ _ _ _ _ _ _ _ _ _ _ _ _ _ _ _ _ _ _ _

set_option maxRecDepth 100000 in
theorem mixWordA {T : Array Value} {l0 l4 l7 l8 l9 l10 l11 l12 l13 l14 l15 l16 l17 l18 l20 : Value} (x0 x1 x2 x3 : BitVec 32) (g BW k : Nat) (hk : k < 16) {w : World} (v0 : Value) (c0 : w.cell? ⟨g, 8 + 4 * k, none⟩ = some (.int .u8 (u x0))) (c1 : w.cell? ⟨g, 8 + (4 * k + 1), none⟩ = some (.int .u8 (u x1))) (c2 : w.cell? ⟨g, 8 + (4 * k + 2), none⟩ = some (.int .u8 (u x2))) (c3 : w.cell? ⟨g, 8 + (4 * k + 3), none⟩ = some (.int .u8 (u x3)))
    (b0 : 0 ≤ u x0 ∧ u x0 ≤ 255) (b1 : 0 ≤ u x1 ∧ u x1 ≤ 255) (b2 : 0 ≤ u x2 ∧ u x2 ≤ 255) (b3 : 0 ≤ u x3 ∧ u x3 ≤ 255) (cw : w.cell? ⟨BW, k, none⟩ = some v0) (cf : w.frozen? ⟨BW, k, none⟩ = false) {Q : Exit → Act → World → Prop} (hL : mixLive T l0 (.pointer (some ⟨g, 8, none⟩)) l4 (.pointer (some ⟨BW, 0, none⟩)) (.int .i64 (k : Int)) l7 l8 l9 l10 l11 l12 l13 l14 l15 l16 l17 l18 l20)
 (hQ : ∀ (T' : Array Value),mixLive T' l0 (.pointer (some ⟨g,8,none⟩)) l4 (.pointer (some ⟨BW,0,none⟩)) (.int .i64 (k : Int)) l7 l8 l9 l10 l11 l12 l13 l14 l15 l16 l17 l18 l20 → Q .normal ⟨T',[]⟩ ((w.setCell ⟨BW,k,none⟩ (.int .u32 (u (x0 <<< 24 ||| x1 <<< 16 ||| x2 <<< 8 ||| x3)))).drew)) : Code.wp Try.prog (mixReg 5) Q ⟨T,[]⟩ w := by
  rw [mixOut T hL.size]
  rw [hL.s0, hL.s1, hL.s4, hL.s5, hL.s6, hL.s7, hL.s8, hL.s9, hL.s10, hL.s11, hL.s12, hL.s13, hL.s14, hL.s15, hL.s16, hL.s17, hL.s18, hL.s20]
  refine mixWord x0 x1 x2 x3 g BW k hk v0 c0 c1 c2 c3 b0 b1 b2 b3 cw cf ?_
  intros
  exact hQ _ ⟨rfl, rfl, rfl, rfl, rfl, rfl, rfl, rfl, rfl, rfl, rfl, rfl, rfl, rfl, rfl, rfl, rfl, rfl, rfl⟩

end Go.Proofs.Ytpjfhbmegabafaa
