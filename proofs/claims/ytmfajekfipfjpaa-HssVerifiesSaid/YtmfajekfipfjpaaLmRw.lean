/- Layer 5, the reference: what is verified. -/
import Derived.Test.YtmfajekfipfjpaaLmRa
import Derived.Test.YtmfajekfipfjpaaOtsTt
import Derived.Test.YtmfajekfipfjpaaLmVe
namespace Go.Proofs.Ytmfajekfipfjpaa
open Go.RowKit
open Go.Lib (strCells strCells_length strCells_oneCell)
attribute [local irreducible] Sha.compress Sha.blocks Sha.sha Sha.pad

theorem beL_num : ∀ (n : Nat) (l : List UInt8), l.length = n → beL n (numL l) = l
  | 0, l, h => by rw [List.eq_nil_of_length_eq_zero h]; rfl
  | n + 1, l, h => by
    have hne : l ≠ [] := fun e => by rw [e] at h; cases h
    have e := (List.dropLast_concat_getLast hne).symm
    generalize l.dropLast = a at e
    generalize l.getLast hne = b at e
    subst e
    have ha : a.length = n := by simpa using h
    have hb := b.toNat_lt
    rw [beL_succ, numL_snoc, show (256 * numL a + b.toNat) / 256 = numL a from by omega, beL_num n a ha]
    congr 1
    rw [List.cons.injEq]
    refine ⟨?_, rfl⟩
    apply UInt8.toNat_inj.1
    rw [UInt8.toNat_ofNat']
    omega
theorem num_inj {l m : List UInt8} (hl : l.length = 4) (hm : m.length = 4) (h : numL l = numL m) : l = m := by
  rw [← beL_num 4 l hl, ← beL_num 4 m hm, h]
theorem rNum_yes {l : List UInt8} {a : Nat} (h : a + 4 ≤ l.length) : rNum l a = (numL ((l.drop a).take 4) : Int) := if_pos h
theorem rHgt_nat (t : Nat) : rHgt (t : Int) = hgt t := by
  unfold rHgt
  rw [if_neg (by omega), Int.toNat_natCast]
theorem hgt_got {t h : Nat} (e : Lms.heightOf t = some h) : hgt t = h ∧ 1 ≤ h ∧ h ≤ 5 := by
  refine ⟨by unfold hgt; rw [e]; rfl, ?_⟩
  unfold Lms.heightOf at e
  split at e
  · have := Option.some.inj e; omega
  · split at e
    · have := Option.some.inj e; omega
    · cases e
/-- What a public key and a signature's length tell. -/
theorem verify_parts {pb s : List UInt8} (h56 : pb.length = 56) (h0 : rSize (rNum pb 0) (rNum pb 4) ≠ 0) (hs : s.length = rSize (rNum pb 0) (rNum pb 4)) : ∃ (o : Ots.Par) (h : Nat), rNum pb 0 = (numL (pb.take 4) : Int) ∧ rNum pb 4 = (numL ((pb.drop 4).take 4) : Int) ∧
    Ots.par (numL ((pb.drop 4).take 4) : Int) = some o ∧ Lms.heightOf (numL (pb.take 4)) = some h ∧ rHgt (rNum pb 0) = h ∧ 1 ≤ h ∧ h ≤ 5 ∧ s.length = 44 + 32 * o.p + 32 * h := by
  have e0 : rNum pb 0 = (numL (pb.take 4) : Int) := by rw [rNum_yes (by omega)]; rfl
  have e4 : rNum pb 4 = (numL ((pb.drop 4).take 4) : Int) := rNum_yes (by omega)
  rw [e0, e4] at h0 hs
  rw [e0, e4]
  unfold rSize at h0 hs
  rw [rHgt_nat] at h0 hs ⊢
  cases hp : Ots.par (numL ((pb.drop 4).take 4) : Int) with
  | none => rw [hp] at h0; exact absurd rfl h0
  | some o =>
    rw [hp] at h0 hs
    simp only at h0 hs
    cases hh : Lms.heightOf (numL (pb.take 4)) with
    | none =>
      have : hgt (numL (pb.take 4)) = 0 := by unfold hgt; rw [hh]; rfl
      rw [this] at h0
      exact absurd rfl h0
    | some h =>
      obtain ⟨g1, g2, g3⟩ := hgt_got hh
      rw [g1, if_neg (by omega)] at hs
      exact ⟨o, h, rfl, rfl, rfl, rfl, g1, g2, g3, hs⟩
theorem verify_no {pb msg s : List UInt8} (h : pb.length ≠ 56 ∨ rSize (rNum pb 0) (rNum pb 4) = 0 ∨ s.length ≠ rSize (rNum pb 0) (rNum pb 4) ∨ 65536 < msg.length) : Lms.verify pb msg s = 500 := by
  unfold Lms.verify
  by_cases h56 : pb.length = 56
  · rw [if_pos h56]
    have e0 : rNum pb 0 = (numL (pb.take 4) : Int) := by rw [rNum_yes (by omega)]; rfl
    have e4 : rNum pb 4 = (numL ((pb.drop 4).take 4) : Int) := rNum_yes (by omega)
    rw [e0, e4] at h
    unfold rSize at h
    rw [rHgt_nat] at h
    cases hh : Lms.heightOf (numL (pb.take 4)) with
    | none => cases Ots.par (numL ((pb.drop 4).take 4) : Int) <;> rfl
    | some k =>
      obtain ⟨g1, g2, g3⟩ := hgt_got hh
      cases hp : Ots.par (numL ((pb.drop 4).take 4) : Int) with
      | none => rfl
      | some o =>
        rw [hp] at h
        simp only at h
        rw [g1, if_neg (by omega)] at h
        refine if_neg (fun hf => ?_)
        have h1 := hf.1
        have h2 := hf.2.1
        omega
  · rw [if_neg h56]

set_option maxRecDepth 100000 in
set_option maxHeartbeats 2000000 in
theorem rVerify_no (pb msg s : ByteArray) (hpb : pb.size ≤ 140737488351232) (hss : s.size ≤ 140737488351232) (hbad : pb.size ≠ 56 ∨ rSize (rNum pb.data.toList 0) (rNum pb.data.toList 4) = 0 ∨ s.size ≠ rSize (rNum pb.data.toList 0) (rNum pb.data.toList 4) ∨ 65536 < msg.size) (w : World) : Calls Try.prog 19 #[.string pb, .string msg, .string s] w fun e w' => e = .returned (.int .i64 500) ∧ Below w.heap.size w w' := by
  obtain ⟨T0, hT0⟩ : ∃ T0, rNum pb.data.toList 0 = T0 := ⟨_, rfl⟩
  obtain ⟨K0, hK0⟩ : ∃ K0, rNum pb.data.toList 4 = K0 := ⟨_, rfl⟩
  have hN1 := hid (fun W => show Calls Try.prog 52 #[.string pb, .int .i64 0] W fun e w' => e = .returned (.int .i64 T0) ∧ ∃ m, w' = W.drewN m from by rw [← hT0]; exact rNum_any pb 0 hpb (by omega) W)
  have hN2 := hid (fun W => show Calls Try.prog 52 #[.string pb, .int .i64 4] W fun e w' => e = .returned (.int .i64 K0) ∧ ∃ m, w' = W.drewN m from by rw [← hK0]; exact rNum_any pb 4 hpb (by omega) W)
  have hSz := hid (fun W => rSize_any T0 K0 W)
  rw [hT0, hK0] at hbad
  obtain ⟨Sz, hSzz⟩ : ∃ Sz, rSize T0 K0 = Sz := ⟨_, rfl⟩
  rw [hSzz] at hbad hSz
  clear hT0 hK0 hSzz
  go_enter Try.func19, Try.ntmps19
  go_wp2_with fail
  have hB0 := hid (Below.refl w.heap.size w)
  refine (hN1.out _).mono ?_
  rintro e w' ⟨rfl, mm, rfl⟩
  have hb : Below w.heap.size w (w.drewN mm) := ⟨rfl, rfl, rfl, Nat.le_refl _, fun _ _ => rfl⟩
  generalize w.drewN mm = W1 at *
  have hB1 := hid (below_up hb hB0.out)
  clear hb hB0
  go_wp2_with fail
  refine (hN2.out _).mono ?_
  rintro e w' ⟨rfl, mm, rfl⟩
  have hb : Below W1.heap.size W1 (W1.drewN mm) := ⟨rfl, rfl, rfl, Nat.le_refl _, fun _ _ => rfl⟩
  generalize W1.drewN mm = W2 at *
  have hB2 := hid (below_up hb hB1.out)
  clear hb hB1
  go_wp2_with fail
  refine (hSz.out _).mono ?_
  rintro e w' ⟨rfl, hw⟩
  have hw := hw.symm
  subst hw
  by_cases h56 : pb.size = 56
  · have e1 : ((pb.size : Int) != 56) = false := by rw [h56]; rfl
    by_cases hz : Sz = 0
    · subst hz
      go_wp2_with fail
      go_ret
      exact ⟨rfl, hB2.out⟩
    · have e2 : ((Sz : Int) == 0) = false := by rw [beq_eq_false_iff_ne]; omega
      by_cases hs : s.size = Sz
      · have e3 : ((s.size : Int) != (Sz : Int)) = false := by rw [hs]; simp
        have e4 : (65536 : Int) < (msg.size : Int) := by omega
        go_wp2_with fail
        go_ret
        exact ⟨rfl, hB2.out⟩
      · have e3 : ((s.size : Int) != (Sz : Int)) = true := by rw [bne_iff_ne]; omega
        go_wp2_with fail
        go_ret
        exact ⟨rfl, hB2.out⟩
  · have e1 : ((pb.size : Int) != 56) = true := by rw [bne_iff_ne]; omega
    go_wp2_with fail
    go_ret
    exact ⟨rfl, hB2.out⟩

theorem par_q {k : Int} {p : Ots.Par} (h : Ots.par k = some p) : p.p ≤ 67 ∧ 1 ≤ p.p := by
  rcases Ots.par_kind h with ⟨_, rfl⟩ | ⟨_, rfl⟩ <;> decide

set_option maxRecDepth 100000 in
set_option maxHeartbeats 2000000 in
theorem rVerify_form (pb msg s : ByteArray) (hpb : pb.size ≤ 140737488351232) (hss : s.size ≤ 140737488351232) (h56 : pb.size = 56) (hm65 : msg.size ≤ 65536) (T K : Nat) (o : Ots.Par) (h : Nat) (hP : rNum pb.data.toList 0 = (T : Int) ∧ rNum pb.data.toList 4 = (K : Int) ∧ Ots.par (K : Int) = some o ∧ Lms.heightOf T = some h ∧ rHgt (T : Int) = h ∧ 1 ≤ h ∧ h ≤ 5 ∧ s.data.toList.length = 44 + 32 * o.p + 32 * h) (hbad : ¬ (numL (s.data.toList.take 4) < 2 ^ h ∧ numL ((s.data.toList.drop 4).take 4) = K ∧ numL ((s.data.toList.drop (40 + 32 * o.p)).take 4) = T)) (w : World) : Calls Try.prog 19 #[.string pb, .string msg, .string s] w fun e w' => e = .returned (.int .i64 500) ∧ Below w.heap.size w w' := by
  have hl := data_length pb
  have hsl := data_length s
  obtain ⟨hT0, hK0, hpar, hhgt, hrh, h1, h5, hlen⟩ := hP
  have hN1 := hid (fun W => show Calls Try.prog 52 #[.string pb, .int .i64 0] W fun e w' => e = .returned (.int .i64 (T : Int)) ∧ ∃ m, w' = W.drewN m from by rw [← hT0]; exact rNum_any pb 0 hpb (by omega) W)
  have hN2 := hid (fun W => show Calls Try.prog 52 #[.string pb, .int .i64 4] W fun e w' => e = .returned (.int .i64 (K : Int)) ∧ ∃ m, w' = W.drewN m from by rw [← hK0]; exact rNum_any pb 4 hpb (by omega) W)
  have hSz0 : rSize (T : Int) (K : Int) = s.size := by unfold rSize; rw [hpar]; simp only; rw [hrh, if_neg (by omega), ← hlen, hsl]
  have hSz := hid (fun W => rSize_any (T : Int) (K : Int) W)
  rw [hSz0] at hSz
  have hPa := hid (fun W => Params_any (K : Int) W)
  unfold refPar at hPa
  rw [hpar] at hPa
  simp only at hPa
  have hHt := hid (fun W => rHeightOf_any (T : Int) W)
  rw [hrh] at hHt
  have hp67 := par_q hpar
  obtain ⟨E, hE⟩ : ∃ E, 40 + 32 * o.p = E := ⟨_, rfl⟩
  have hsE : s.size = E + 4 + 32 * h := by omega
  have u1 : IntKind.i64.wrap (32 * (o.p : Int)) = ((32 * o.p : Nat) : Int) := by rw [IntWalk.i64_in _ (by omega)]; omega
  have u2 : IntKind.i64.wrap (40 + ((32 * o.p : Nat) : Int)) = (E : Int) := by rw [IntWalk.i64_in _ (by omega)]; omega
  obtain ⟨p32, hp32⟩ : ∃ x, 32 * o.p = x := ⟨_, rfl⟩
  rw [hp32] at u1 u2
  have e1 : ((pb.size : Int) != 56) = false := by rw [h56]; rfl
  have e2 : ((s.size : Int) == 0) = false := by rw [beq_eq_false_iff_ne]; omega
  have e4 : ¬ (65536 : Int) < (msg.size : Int) := by omega
  have e3 : ((s.size : Int) != (s.size : Int)) = false := by simp
  obtain ⟨Q, hQ⟩ : ∃ Q, numL (s.data.toList.take 4) = Q := ⟨_, rfl⟩
  obtain ⟨K2, hK2⟩ : ∃ Q, numL ((s.data.toList.drop 4).take 4) = Q := ⟨_, rfl⟩
  obtain ⟨T2, hT2⟩ : ∃ Q, numL ((s.data.toList.drop E).take 4) = Q := ⟨_, rfl⟩
  have hN3 := hid (fun W => show Calls Try.prog 52 #[.string s, .int .i64 0] W fun e w' => e = .returned (.int .i64 (Q : Int)) ∧ ∃ m, w' = W.drewN m from by have hc := rNum_any s 0 hss (by omega) W; rw [rNum_yes (by omega), List.drop_zero, hQ] at hc; exact hc)
  have hN4 := hid (fun W => show Calls Try.prog 52 #[.string s, .int .i64 4] W fun e w' => e = .returned (.int .i64 (K2 : Int)) ∧ ∃ m, w' = W.drewN m from by have hc := rNum_any s 4 hss (by omega) W; rw [rNum_yes (by omega), hK2] at hc; exact hc)
  have hN5 := hid (fun W => show Calls Try.prog 52 #[.string s, .int .i64 (E : Int)] W fun e w' => e = .returned (.int .i64 (T2 : Int)) ∧ ∃ m, w' = W.drewN m from by have hc := rNum_any s E hss (by omega) W; rw [rNum_yes (by omega), hT2] at hc; exact hc)
  obtain ⟨Z, hZ⟩ : ∃ Z : Int, ((2 ^ h : Nat) : Int) = Z := ⟨_, rfl⟩
  have hZw : IntKind.i64.wrap (2 ^ h) = Z := (shl_wrap h h5).trans hZ
  have hm64 : min h 64 = h := by omega
  rw [hE, hQ, hK2, hT2] at hbad
  have hsE' := hid hsE
  have h56' := hid h56
  clear hT0 hK0 hpar hhgt hrh hE hp32 hQ hK2 hT2 hl hsl hlen hsE h56
  go_enter Try.func19, Try.ntmps19
  go_wp2_with fail
  have hB0 := hid (Below.refl w.heap.size w)
  refine (hN1.out _).mono ?_
  rintro e w' ⟨rfl, mm, rfl⟩
  have hb : Below w.heap.size w (w.drewN mm) := ⟨rfl, rfl, rfl, Nat.le_refl _, fun _ _ => rfl⟩
  generalize w.drewN mm = W1 at *
  have hB1 := hid (below_up hb hB0.out)
  clear hb hB0
  go_wp2_with fail
  refine (hN2.out _).mono ?_
  rintro e w' ⟨rfl, mm, rfl⟩
  have hb : Below W1.heap.size W1 (W1.drewN mm) := ⟨rfl, rfl, rfl, Nat.le_refl _, fun _ _ => rfl⟩
  generalize W1.drewN mm = W2 at *
  have hB2 := hid (below_up hb hB1.out)
  clear hb hB1
  go_wp2_with fail
  refine (hSz.out _).mono ?_
  rintro e w' ⟨rfl, hw⟩
  have hw := hw.symm
  subst hw
  go_wp2_with fail
  refine (hPa.out _).mono ?_
  rintro e w' ⟨rfl, hw⟩
  have hw := hw.symm
  subst hw
  go_wp2_with fail
  refine (hHt.out _).mono ?_
  rintro e w' ⟨rfl, hw⟩
  have hw := hw.symm
  subst hw
  go_wp2_with fail
  refine (hN3.out _).mono ?_
  rintro e w' ⟨rfl, mm, rfl⟩
  have hb : Below W2.heap.size W2 (W2.drewN mm) := ⟨rfl, rfl, rfl, Nat.le_refl _, fun _ _ => rfl⟩
  generalize W2.drewN mm = W3 at *
  have hB3 := hid (below_up hb hB2.out)
  clear hb hB2
  go_wp2_with fail
  refine (hN4.out _).mono ?_
  rintro e w' ⟨rfl, mm, rfl⟩
  have hb : Below W3.heap.size W3 (W3.drewN mm) := ⟨rfl, rfl, rfl, Nat.le_refl _, fun _ _ => rfl⟩
  generalize W3.drewN mm = W4 at *
  have hB4 := hid (below_up hb hB3.out)
  clear hb hB3
  by_cases hk : K2 = K
  · have e5 : ((K2 : Int) != (K : Int)) = false := by rw [hk]; simp
    go_wp2_with fail
    refine (hN5.out _).mono ?_
    rintro e w' ⟨rfl, mm, rfl⟩
    have hb : Below W4.heap.size W4 (W4.drewN mm) := ⟨rfl, rfl, rfl, Nat.le_refl _, fun _ _ => rfl⟩
    generalize W4.drewN mm = W5 at *
    have hB5 := hid (below_up hb hB4.out)
    clear hb hB4
    by_cases ht : T2 = T
    · have e6 : ((T2 : Int) != (T : Int)) = false := by rw [ht]; simp
      have e7 : Z ≤ (Q : Int) := by have : ¬ Q < 2 ^ h := fun hq => hbad ⟨hq, hk, ht⟩; omega
      go_wp2_with fail
      go_ret
      exact ⟨rfl, hB5.out⟩
    · have e6 : ((T2 : Int) != (T : Int)) = true := by rw [bne_iff_ne]; omega
      go_wp2_with fail
      go_ret
      exact ⟨rfl, hB5.out⟩
  · have e5 : ((K2 : Int) != (K : Int)) = true := by rw [bne_iff_ne]; omega
    go_wp2_with fail
    go_ret
    exact ⟨rfl, hB4.out⟩

theorem cuts_at : ∀ (n k : Nat) (l : List UInt8), k < n → (Lms.cuts l n).drop k = ((l.drop (32 * k)).take 32) :: (Lms.cuts l n).drop (k + 1)
  | 0, k, l, h => by omega
  | n + 1, 0, l, _ => by rw [Lms.cuts]; rfl
  | n + 1, k + 1, l, h => by
    rw [Lms.cuts, List.drop_succ_cons, List.drop_succ_cons, cuts_at n k (l.drop 32) (by omega), List.drop_drop]
    congr 3
    omega
theorem cut_txt (s : ByteArray) (a : Nat) (_h : a + 32 ≤ s.size) : s.extract a (a + 32) = txt ((s.data.toList.drop a).take 32) := by
  apply ba_ext
  rw [txt_list]
  simp only [ByteArray.data_extract, Array.toList_extract, List.extract_eq_take_drop]
  congr 1
  omega

set_option maxRecDepth 100000 in
set_option maxHeartbeats 6000000 in
theorem rVerify_good (pb msg s : ByteArray) (hpb : pb.size ≤ 140737488351232) (hss : s.size ≤ 140737488351232) (h56 : pb.size = 56) (hm65 : msg.size ≤ 65536) (T K : Nat) (o : Ots.Par) (h : Nat) (hP : rNum pb.data.toList 0 = (T : Int) ∧ rNum pb.data.toList 4 = (K : Int) ∧ Ots.par (K : Int) = some o ∧ Lms.heightOf T = some h ∧ rHgt (T : Int) = h ∧ 1 ≤ h ∧ h ≤ 5 ∧ s.data.toList.length = 44 + 32 * o.p + 32 * h) (hgood : numL (s.data.toList.take 4) < 2 ^ h ∧ numL ((s.data.toList.drop 4).take 4) = K ∧ numL ((s.data.toList.drop (40 + 32 * o.p)).take 4) = T) (ans : Int) (hans : (if Lms.rootOf o h ((pb.data.toList.drop 8).take 16) msg.data.toList s.data.toList = pb.data.toList.drop 24 then 0 else 502) = ans) (w : World) : Calls Try.prog 19 #[.string pb, .string msg, .string s] w fun e w' => e = .returned (.int .i64 ans) ∧ Below w.heap.size w w' := by
  have hl := data_length pb
  have hsl := data_length s
  obtain ⟨hT0, hK0, hpar, hhgt, hrh, h1, h5, hlen⟩ := hP
  have hN1 := hid (fun W => show Calls Try.prog 52 #[.string pb, .int .i64 0] W fun e w' => e = .returned (.int .i64 (T : Int)) ∧ ∃ m, w' = W.drewN m from by rw [← hT0]; exact rNum_any pb 0 hpb (by omega) W)
  have hN2 := hid (fun W => show Calls Try.prog 52 #[.string pb, .int .i64 4] W fun e w' => e = .returned (.int .i64 (K : Int)) ∧ ∃ m, w' = W.drewN m from by rw [← hK0]; exact rNum_any pb 4 hpb (by omega) W)
  have hSz0 : rSize (T : Int) (K : Int) = s.size := by unfold rSize; rw [hpar]; simp only; rw [hrh, if_neg (by omega), ← hlen, hsl]
  have hSz := hid (fun W => rSize_any (T : Int) (K : Int) W)
  rw [hSz0] at hSz
  have hPa := hid (fun W => Params_any (K : Int) W)
  unfold refPar at hPa
  rw [hpar] at hPa
  simp only at hPa
  have hHt := hid (fun W => rHeightOf_any (T : Int) W)
  rw [hrh] at hHt
  have hp67 := par_q hpar
  obtain ⟨E, hE⟩ : ∃ E, 40 + 32 * o.p = E := ⟨_, rfl⟩
  have hsE : s.size = E + 4 + 32 * h := by omega
  have u1 : IntKind.i64.wrap (32 * (o.p : Int)) = ((32 * o.p : Nat) : Int) := by rw [IntWalk.i64_in _ (by omega)]; omega
  have u2 : IntKind.i64.wrap (40 + ((32 * o.p : Nat) : Int)) = (E : Int) := by rw [IntWalk.i64_in _ (by omega)]; omega
  obtain ⟨p32, hp32⟩ : ∃ x, 32 * o.p = x := ⟨_, rfl⟩
  rw [hp32] at u1 u2
  have e1 : ((pb.size : Int) != 56) = false := by rw [h56]; rfl
  have e2 : ((s.size : Int) == 0) = false := by rw [beq_eq_false_iff_ne]; omega
  have e4 : ¬ (65536 : Int) < (msg.size : Int) := by omega
  have e3 : ((s.size : Int) != (s.size : Int)) = false := by simp
  obtain ⟨Q, hQ⟩ : ∃ Q, numL (s.data.toList.take 4) = Q := ⟨_, rfl⟩
  obtain ⟨K2, hK2⟩ : ∃ Q, numL ((s.data.toList.drop 4).take 4) = Q := ⟨_, rfl⟩
  obtain ⟨T2, hT2⟩ : ∃ Q, numL ((s.data.toList.drop E).take 4) = Q := ⟨_, rfl⟩
  have hN3 := hid (fun W => show Calls Try.prog 52 #[.string s, .int .i64 0] W fun e w' => e = .returned (.int .i64 (Q : Int)) ∧ ∃ m, w' = W.drewN m from by have hc := rNum_any s 0 hss (by omega) W; rw [rNum_yes (by omega), List.drop_zero, hQ] at hc; exact hc)
  have hN4 := hid (fun W => show Calls Try.prog 52 #[.string s, .int .i64 4] W fun e w' => e = .returned (.int .i64 (K2 : Int)) ∧ ∃ m, w' = W.drewN m from by have hc := rNum_any s 4 hss (by omega) W; rw [rNum_yes (by omega), hK2] at hc; exact hc)
  have hN5 := hid (fun W => show Calls Try.prog 52 #[.string s, .int .i64 (E : Int)] W fun e w' => e = .returned (.int .i64 (T2 : Int)) ∧ ∃ m, w' = W.drewN m from by have hc := rNum_any s E hss (by omega) W; rw [rNum_yes (by omega), hT2] at hc; exact hc)
  obtain ⟨Z, hZ⟩ : ∃ Z : Int, ((2 ^ h : Nat) : Int) = Z := ⟨_, rfl⟩
  have hZw : IntKind.i64.wrap (2 ^ h) = Z := (shl_wrap h h5).trans hZ
  have hm64 : min h 64 = h := by omega
  rw [hE, hQ, hK2, hT2] at hgood
  obtain ⟨hq, hk, ht⟩ := hgood
  have e5 : ((K2 : Int) != (K : Int)) = false := by rw [hk]; simp
  have e6 : ((T2 : Int) != (T : Int)) = false := by rw [ht]; simp
  have e7 : ¬ Z ≤ (Q : Int) := by omega
  have hp5 : 2 ^ h ≤ 32 := Nat.le_trans (Nat.pow_le_pow_right (by decide) h5) (by decide)
  obtain ⟨idt, hidt⟩ : ∃ t, pb.extract 8 24 = t := ⟨_, rfl⟩
  have hidl : idt.data.toList = (pb.data.toList.drop 8).take 16 := by rw [← hidt]; simp only [ByteArray.data_extract, Array.toList_extract, List.extract_eq_take_drop]
  have hid16 : idt.size = 16 := by rw [← hidt, ByteArray.size_extract]; omega
  obtain ⟨once, honce⟩ : ∃ t, s.extract 4 E = t := ⟨_, rfl⟩
  have hol : once.data.toList = (s.data.toList.drop 4).take (36 + 32 * o.p) := by
    rw [← honce]
    simp only [ByteArray.data_extract, Array.toList_extract, List.extract_eq_take_drop]
    congr 1
    omega
  have hos : once.size = 36 + 32 * o.p := by rw [← honce, ByteArray.size_extract]; omega
  obtain ⟨y, hy⟩ : ∃ y, Ots.cand o (Ots.head idt.data.toList Q) msg.data.toList once.data.toList = y := ⟨_, rfl⟩
  have hy32 : y.length = 32 := by rw [← hy]; exact Lms.cand_len _ _ _ _
  have hC := hid (hash_cells y hy32)
  have hCd := hid (fun W => show Calls Try.prog 56 #[.string idt, .int .i64 (Q : Int), .string msg, .string once] W fun e w' => e = .returned (.tuple #[.agg (byteCells y).toArray, .int .i64 0]) ∧ Below W.heap.size W w' from by
    have hc := rCandidate_any (Q : Int) idt msg once (by omega) (by omega) W
    have hg : candGood (Q : Int) idt msg once = some o := by
      unfold candGood
      have e : numL (once.data.toList.take 4) = K := by rw [hol, List.take_take, show min 4 (36 + 32 * o.p) = 4 from by omega, hK2, hk]
      rw [if_neg (by omega), e, hpar]
      exact if_pos ⟨hos, by unfold Ots.may; rw [decide_eq_true ⟨hid16, by omega, by omega⟩], hm65⟩
    unfold candAns at hc
    rw [hg] at hc
    rw [← hy]
    exact hc)
  have hTy := hid (fun W => show Calls Try.prog 23 #[.agg (byteCells y).toArray] W fun e w' => e = .returned (.string (txt y)) ∧ Below W.heap.size W w' from tT_any y hy32 W)
  obtain ⟨R, hR⟩ : ∃ R, 2 ^ h + Q = R := ⟨_, rfl⟩
  have hRw := IntWalk.i64_in (R : Int) (by omega)
  have hZR : Z + (Q : Int) = (R : Int) := by omega
  have hR64 : R < 64 := by omega
  have hBe := hid (fun (k : Nat) (hk : k < 64) W => Be_any (k : Int) 4 4 rfl (by decide) k rfl (by omega) W)
  obtain ⟨bR, hbR⟩ : ∃ b, be 4 R = b := ⟨_, rfl⟩
  have sbR : bR.size = 4 := by rw [← hbR, be_size]
  have hBR := hid (fun W => hBe.out R hR64 W)
  obtain ⟨lf, hlf⟩ : ∃ l, Lms.leaf idt.data.toList R y = l := ⟨_, rfl⟩
  have hlf32 : lf.length = 32 := by rw [← hlf]; exact Lms.leaf_len _ _ _
  obtain ⟨ty, hty⟩ : ∃ t, txt y = t := ⟨_, rfl⟩
  have sty : ty.size = 32 := by rw [← hty, txt_size]; exact hy32
  have hLf := hid (fun W => show Calls Try.prog 57 #[.string (idt ++ bR ++ ⟨#[130, 130]⟩ ++ ty)] W fun e w' => e = .returned (.string (txt lf)) ∧ Below W.heap.size W w' from by
    have hc := rH_any (idt ++ be 4 R ++ ⟨#[130, 130]⟩ ++ txt y) W (by rw [← lead82]; have := leafX_size idt R y hy32; unfold leafX at this; rw [this]; omega)
    rw [leaf_text, hlf, hbR, hty] at hc
    exact hc)
  rw [hbR] at hBR
  rw [hty] at hTy
  have z1 : idt.size + bR.size ≤ 9223372036854775807 := by omega
  have z2 : idt.size + bR.size + 2 ≤ 9223372036854775807 := by omega
  have z3 : idt.size + bR.size + 2 + ty.size ≤ 9223372036854775807 := by omega
  have hJn := hid (fun (v : Nat) (a b : List UInt8) (ha : a.length = 32) (hb : b.length = 32) W => show Calls Try.prog 57 #[.string (idt ++ be 4 v ++ ⟨#[131, 131]⟩ ++ txt a ++ txt b)] W fun e w' => e = .returned (.string (txt (Lms.join idt.data.toList v a b))) ∧ Below W.heap.size W w' from by
    have hc := rH_any (idt ++ be 4 v ++ ⟨#[131, 131]⟩ ++ txt a ++ txt b) W (by rw [← lead83]; have := joinX_size idt v a b ha hb; unfold joinX at this; rw [this]; omega)
    rw [join_text] at hc
    exact hc)
  obtain ⟨ys, hys⟩ : ∃ ys, Lms.cuts (s.data.toList.drop (44 + 32 * o.p)) h = ys := ⟨_, rfl⟩
  have hyd := hid (fun k (hk : k < h) => show ys.drop k = ((s.data.toList.drop (E + 4 + 32 * k)).take 32) :: ys.drop (k + 1) from by
    rw [← hys, cuts_at h k _ hk, List.drop_drop, show 44 + 32 * o.p + 32 * k = E + 4 + 32 * k from by omega])
  have hyn := hid (show ys.drop h = [] from by rw [← hys]; exact List.drop_of_length_le (by rw [Lms.cuts_len]; exact Nat.le_refl _))
  obtain ⟨rx, hrx⟩ : ∃ x, Lms.climb idt.data.toList ys R lf = x := ⟨_, rfl⟩
  have hroot : Lms.rootOf o h ((pb.data.toList.drop 8).take 16) msg.data.toList s.data.toList = rx := by
    unfold Lms.rootOf
    rw [← hidl, ← hol, hQ, hR, hy, hlf, hys, hrx]
  rw [hroot] at hans
  obtain ⟨d, hd⟩ : ∃ d, pb.extract 24 pb.size = d := ⟨_, rfl⟩
  have hdl : d.data.toList = pb.data.toList.drop 24 := by rw [← hd]; exact cut_front pb 24 (by omega)
  have hsE' := hid hsE
  have hpbs := hid h56
  have hS0 := hid (And.intro hss h5)
  have b1 : (4 : Int) ≤ (E : Int) := by omega
  have b2 : (E : Int) ≤ (s.size : Int) := by omega
  have b3 : (8 : Int) ≤ (pb.size : Int) := by omega
  have b4 : (24 : Int) ≤ (pb.size : Int) := by omega
  have hid16' := hid hid16
  have hR64' := hid hR64
  have hrx' := hid hrx
  have hE400 := hid (show E ≤ 3000 from by omega)
  have hlf32' := hid hlf32
  have ho1 : s.extract 4 E = once := honce
  have ho2 : pb.extract 8 24 = idt := hidt
  have ho3 : pb.extract 24 pb.size = d := hd
  clear hT0 hK0 hpar hhgt hrh hE hp32 hQ hK2 hT2 hl hsl hlen hidt honce hol hos hy hR hbR sbR hlf sty hty hys hrx hroot hd hidl hsE h56 hid16 hR64 hlf32 hq hk ht hp5 hZ hp67 h1 hm65 hpb hss
  go_enter Try.func19, Try.ntmps19
  go_wp2_with fail
  have hB0 := hid (Below.refl w.heap.size w)
  refine (hN1.out _).mono ?_
  rintro e w' ⟨rfl, mm, rfl⟩
  have hb : Below w.heap.size w (w.drewN mm) := ⟨rfl, rfl, rfl, Nat.le_refl _, fun _ _ => rfl⟩
  generalize w.drewN mm = W1 at *
  have hB1 := hid (below_up hb hB0.out)
  clear hb hB0
  go_wp2_with fail
  refine (hN2.out _).mono ?_
  rintro e w' ⟨rfl, mm, rfl⟩
  have hb : Below W1.heap.size W1 (W1.drewN mm) := ⟨rfl, rfl, rfl, Nat.le_refl _, fun _ _ => rfl⟩
  generalize W1.drewN mm = W2 at *
  have hB2 := hid (below_up hb hB1.out)
  clear hb hB1
  go_wp2_with fail
  refine (hSz.out _).mono ?_
  rintro e w' ⟨rfl, hw⟩
  have hw := hw.symm
  subst hw
  go_wp2_with fail
  refine (hPa.out _).mono ?_
  rintro e w' ⟨rfl, hw⟩
  have hw := hw.symm
  subst hw
  go_wp2_with fail
  refine (hHt.out _).mono ?_
  rintro e w' ⟨rfl, hw⟩
  have hw := hw.symm
  subst hw
  go_wp2_with fail
  refine (hN3.out _).mono ?_
  rintro e w' ⟨rfl, mm, rfl⟩
  have hb : Below W2.heap.size W2 (W2.drewN mm) := ⟨rfl, rfl, rfl, Nat.le_refl _, fun _ _ => rfl⟩
  generalize W2.drewN mm = W3 at *
  have hB3 := hid (below_up hb hB2.out)
  clear hb hB2
  go_wp2_with fail
  refine (hN4.out _).mono ?_
  rintro e w' ⟨rfl, mm, rfl⟩
  have hb : Below W3.heap.size W3 (W3.drewN mm) := ⟨rfl, rfl, rfl, Nat.le_refl _, fun _ _ => rfl⟩
  generalize W3.drewN mm = W4 at *
  have hB4 := hid (below_up hb hB3.out)
  clear hb hB3
  go_wp2_with fail
  refine (hN5.out _).mono ?_
  rintro e w' ⟨rfl, mm, rfl⟩
  have hb : Below W4.heap.size W4 (W4.drewN mm) := ⟨rfl, rfl, rfl, Nat.le_refl _, fun _ _ => rfl⟩
  generalize W4.drewN mm = W5 at *
  have hB5 := hid (below_up hb hB4.out)
  clear hb hB4
  go_wp2_with fail
  refine (hCd.out _).mono ?_
  rintro e W6 ⟨rfl, hb⟩
  have hB6 := hid (below_up hb hB5.out)
  clear hb hB5
  go_wp2_with (first
    | ((with_reducible refine at_slot (some 17) ?_); refine wpList_run rfl (.pointer (some ⟨W6.heap.size, 0, none⟩)) (W6.alloc (.cells z32 44)) (by kernel_rfl) ?_)
    | ((with_reducible refine at_slot none ?_); refine wpList_store_mid rfl 44 (.tmp 17) (.tmp 88) rfl W6.heap.size 0 (byteCells y).toArray rfl rfl (by exact hC.out.there W6) (by exact hC.out.size) (by exact hC.out.one) ?_; generalize hW : World.setCells _ _ _ _ = W7; obtain ⟨hN, hb⟩ := hC.out.new hW; have hB7 := hid (below_up hb hB6.out); have hY7 := hid hN; clear hb hB6 hN; clear hW)
    | fail)
  obtain ⟨gy, hgy⟩ : ∃ gy, W6.heap.size = gy := ⟨_, rfl⟩
  rw [hgy] at hY7 ⊢
  clear hgy
  have hb : Below W7.heap.size W7 W7.drew := (Below.refl _ _).drew
  have hB8 := hid (below_up hb hB7.out)
  have hY8 := hid (hY7.out.below hb hY7.out.lt)
  clear hb hB7 hY7
  refine wp_region_held_drew (S := fun V => Holds V gy 44 (byteCells y)) (by kernel_rfl) (by exact hY8.out) (fun hHeld => ?_)
  generalize W7.drew = W8 at *
  refine tkx 0 (.string idt) hHeld ?_; simp only [ly, Act.put]
  refine tkx 1 (.int .i64 (R : Int)) hHeld ?_; simp only [ly, Act.put]
  refine tkx 5 (.agg (byteCells y).toArray) hHeld ?_ (hy := yieldsIf_load_mid (by kernel_rfl) _ _ rfl _ _ rfl _ _ (fun V hS => h_all hS) Try.underlying44 rfl (by exact hC.out.size')); simp only [ly, Act.put]
  refine wpAnyH_ready (rs := [2]) (by kernel_rfl) (by simp) (AllReadyH.cons rfl (fun K hK => ?_) AllReadyH.nil)
  have hK' := hid hK
  clear hK
  rw [if_pos (by kernel_rfl)]
  simp only [ly1, ly2, ly3]
  go_simp
  refine (hBR.out _).mono ?_
  rintro e W9 ⟨rfl, hb⟩
  have hB9 := hid (below_up hb hB8.out)
  have hY9 := hid (hY8.out.below hb hY8.out.lt)
  clear hb hB8 hY8
  refine hK'.out _ _ (by exact hY9.out) (fun hHeld => ?_)
  clear hK' K
  refine tkx 3 (.string (idt ++ bR)) hHeld ?_; simp only [ly, Act.put]
  refine tkx 4 (.string (idt ++ bR ++ ⟨#[130, 130]⟩)) hHeld ?_; simp only [ly, Act.put]
  refine wpAnyH_ready (rs := [6]) (by kernel_rfl) (by simp) (AllReadyH.cons rfl (fun K hK => ?_) AllReadyH.nil)
  have hK' := hid hK
  clear hK
  rw [if_pos (by kernel_rfl)]
  simp only [ly1, ly2, ly3]
  go_simp
  refine (hTy.out _).mono ?_
  rintro e W10 ⟨rfl, hb⟩
  have hB10 := hid (below_up hb hB9.out)
  have hY10 := hid (hY9.out.below hb hY9.out.lt)
  clear hb hB9 hY9
  refine hK'.out _ _ (by exact hY10.out) (fun hHeld => ?_)
  clear hK' K
  refine tkx 7 (.string (idt ++ bR ++ ⟨#[130, 130]⟩ ++ ty)) hHeld ?_; simp only [ly, Act.put]
  refine wpAnyH_ready (rs := [8]) (by kernel_rfl) (by simp) (AllReadyH.cons rfl (fun K hK => ?_) AllReadyH.nil)
  have hK' := hid hK
  clear hK
  rw [if_pos (by kernel_rfl)]
  simp only [ly1, ly2, ly3]
  go_simp
  refine (hLf.out _).mono ?_
  rintro e W11 ⟨rfl, hb⟩
  have hB11 := hid (below_up hb hB10.out)
  have hY11 := hid (hY10.out.below hb hY10.out.lt)
  clear hb hB10 hY10
  refine hK'.out _ _ (by exact hY11.out) (fun hHeld => ?_)
  clear hK' K
  refine tkx 9 (.string (txt lf)) hHeld ?_; simp only [ly, Act.put]
  refine wpAnyH_done (by kernel_rfl) ?_ _
  go_wp2_with fail
  go_loopw [19, 20, 21] (fun r xx i wr => ∃ (k u : Nat) (x : List UInt8), k ≤ h ∧ u < 64 ∧ r = .int .i64 (u : Int) ∧ xx = .string (txt x) ∧ i = .int .i64 (k : Int) ∧ Hid (x.length = 32) ∧ Hid (Lms.climb idt.data.toList (ys.drop k) u x = rx) ∧ Below w.heap.size w wr) (fun _ _ i _ => h - (intOf i).toNat)
  case atStart => exact ⟨0, R, lf, Nat.zero_le _, hR64'.out, rfl, rfl, rfl, hid hlf32'.out, hid hrx'.out, hB11.out⟩
  case round =>
    obtain ⟨k, u, x, hkh, hu64, rfl, rfl, rfl, hx32, hcl, hBr⟩ := hrel
    have hB0 := hid hBr
    clear hBr
    by_cases hlt : k < h
    · have hki : (k : Int) < (h : Int) := by omega
      have hE3 := hE400.out
      have hsz := hsE'.out
      have hy0 := hyd.out k hlt
      have hcl2 := hcl.out
      rw [hy0, Lms.climb] at hcl2
      have hct := cut_txt s (E + 4 + 32 * k) (by omega)
      obtain ⟨v, hv⟩ : ∃ v, (s.data.toList.drop (E + 4 + 32 * k)).take 32 = v := ⟨_, rfl⟩
      have hv32 : v.length = 32 := by rw [← hv, List.length_take, List.length_drop, data_length]; omega
      rw [hv] at hcl2 hct
      obtain ⟨u2, hu2⟩ : ∃ v, u / 2 = v := ⟨_, rfl⟩
      rw [hu2] at hcl2
      have htd : (u : Int).tdiv 2 = (u2 : Int) := by rw [Int.tdiv_eq_ediv_of_nonneg (by omega)]; omega
      have huw := IntWalk.i64_in (u2 : Int) (by omega)
      have hBv := hid (fun W => hBe.out u2 (by omega) W)
      have hJa := hid (fun W => hJn.out u2 v x hv32 hx32.out W)
      have hJb := hid (fun W => hJn.out u2 x v hx32.out hv32 W)
      obtain ⟨bv, hbv⟩ : ∃ b, be 4 u2 = b := ⟨_, rfl⟩
      have sbv : bv.size = 4 := by rw [← hbv, be_size]
      rw [hbv] at hBv hJa hJb
      have sv : (txt v).size = 32 := by rw [txt_size]; exact hv32
      have sx : (txt x).size = 32 := by rw [txt_size]; exact hx32.out
      have hja := hid (Lms.join_len idt.data.toList u2 v x)
      have hjb := hid (Lms.join_len idt.data.toList u2 x v)
      obtain ⟨tv, htv⟩ : ∃ t, txt v = t := ⟨_, rfl⟩
      obtain ⟨tx, htx⟩ : ∃ t, txt x = t := ⟨_, rfl⟩
      rw [htv] at hct hJa hJb sv
      rw [htx] at hJa hJb sx ⊢
      have y1 : IntKind.i64.wrap ((E : Int) + 4) = ((E + 4 : Nat) : Int) := by rw [IntWalk.i64_in _ (by omega)]; omega
      have y2 : IntKind.i64.wrap (32 * (k : Int)) = ((32 * k : Nat) : Int) := by rw [IntWalk.i64_in _ (by omega)]; omega
      obtain ⟨A, hA⟩ : ∃ A, E + 4 + 32 * k = A := ⟨_, rfl⟩
      have y3 : IntKind.i64.wrap (((E + 4 : Nat) : Int) + ((32 * k : Nat) : Int)) = (A : Int) := by rw [IntWalk.i64_in _ (by omega)]; omega
      have y4 : IntKind.i64.wrap ((E : Int) + 36) = ((E + 36 : Nat) : Int) := by rw [IntWalk.i64_in _ (by omega)]; omega
      have y5 : IntKind.i64.wrap (((E + 36 : Nat) : Int) + ((32 * k : Nat) : Int)) = ((A + 32 : Nat) : Int) := by rw [IntWalk.i64_in _ (by omega)]; omega
      obtain ⟨k32, hk32⟩ : ∃ x, 32 * k = x := ⟨_, rfl⟩
      obtain ⟨E4, hE4⟩ : ∃ x, E + 4 = x := ⟨_, rfl⟩
      obtain ⟨E36, hE36⟩ : ∃ x, E + 36 = x := ⟨_, rfl⟩
      obtain ⟨A32, hA32⟩ : ∃ x, A + 32 = x := ⟨_, rfl⟩
      rw [hA, hA32] at hct
      rw [hk32] at y2 y3 y5
      rw [hE4] at y1 y3
      rw [hE36] at y4 y5
      rw [hA32] at y5
      have y6 : (A : Int) ≤ (A32 : Int) := by omega
      have y7 : (A32 : Int) ≤ (s.size : Int) := by omega
      have y8 : (0 : Int) ≤ (A : Int) := by omega
      have si := hid16'.out
      have q1 : idt.size + bv.size ≤ 9223372036854775807 := by omega
      have q2 : idt.size + bv.size + 2 ≤ 9223372036854775807 := by omega
      have q3 : idt.size + bv.size + 2 + tv.size ≤ 9223372036854775807 := by omega
      have q4 : idt.size + bv.size + 2 + tv.size + tx.size ≤ 9223372036854775807 := by omega
      have q5 : idt.size + bv.size + 2 + tx.size ≤ 9223372036854775807 := by omega
      have q6 : idt.size + bv.size + 2 + tx.size + tv.size ≤ 9223372036854775807 := by omega
      have ukw := IntWalk.i64_in ((k : Int) + 1) (by omega)
      have hu2l : u2 < 64 := by omega
      have hcl3 := hid hcl2
      have hmd : (u : Int).tmod 2 = ((u % 2 : Nat) : Int) := by rw [Int.tmod_eq_emod_of_nonneg (by omega)]; omega
      clear hy0 hv hcl2 hbv sbv sv sx hA hk32 hE4 hE36 hA32 si hsz hE3 hu2
      by_cases ho : u % 2 = 0
      · rw [ho] at hmd
        have hme : (((0 : Nat) : Int) == 1) = false := by decide
        rw [ho, if_pos rfl] at hcl3
        go_wp2_with fail
        try rw [hct]
        refine (hBv.out _).mono ?_
        rintro e W1 ⟨rfl, hb⟩
        have hB1 := hid (below_up hb hB0.out)
        clear hb hB0
        go_wp2_with fail
        try rw [hct]
        refine (hJb.out _).mono ?_
        rintro e W2 ⟨rfl, hb⟩
        have hB2 := hid (below_up hb hB1.out)
        clear hb hB1
        go_wp2_with fail
        go_roundw
        case rel => exact ⟨k + 1, u2, _, hlt, hu2l, rfl, rfl, by go_num, hid hjb.out, hid hcl3.out, hB2.out⟩
        case measure => simp [intOf]; omega
      · have h1m : u % 2 = 1 := by omega
        rw [h1m] at hmd
        have hme : (((1 : Nat) : Int) == 1) = true := by decide
        rw [if_neg ho] at hcl3
        go_wp2_with fail
        try rw [hct]
        refine (hBv.out _).mono ?_
        rintro e W1 ⟨rfl, hb⟩
        have hB1 := hid (below_up hb hB0.out)
        clear hb hB0
        go_wp2_with fail
        try rw [hct]
        refine (hJa.out _).mono ?_
        rintro e W2 ⟨rfl, hb⟩
        have hB2 := hid (below_up hb hB1.out)
        clear hb hB1
        go_wp2_with fail
        go_roundw
        case rel => exact ⟨k + 1, u2, _, hlt, hu2l, rfl, rfl, by go_num, hid hja.out, hid hcl3.out, hB2.out⟩
        case measure => simp [intOf]; omega
    · obtain rfl : k = h := by omega
      have hki : ¬ (k : Int) < (k : Int) := by omega
      have hcl2 := hcl.out
      rw [hyn.out, Lms.climb] at hcl2
      rw [hcl2]
      have b5 : (24 : Int) ≤ (pb.size : Int) := by have := hpbs.out; omega
      by_cases hr : rx = pb.data.toList.drop 24
      · have e9 : (txt rx).toList = d.toList := by rw [Lib.toList_data, Lib.toList_data, hdl, ← hr]; rfl
        rw [if_pos hr] at hans
        obtain ⟨tx, htx⟩ : ∃ t, txt rx = t := ⟨_, rfl⟩
        rw [htx] at e9 ⊢
        go_wp2_with fail
        go_ret
        exact ⟨by rw [← hans]; rfl, hB0.out⟩
      · have e9 : ¬ (txt rx).toList = d.toList := fun e => hr (by rw [Lib.toList_data, Lib.toList_data, hdl] at e; exact e)
        rw [if_neg hr] at hans
        obtain ⟨tx, htx⟩ : ∃ t, txt rx = t := ⟨_, rfl⟩
        rw [htx] at e9 ⊢
        have e10 : (tx.toList == d.toList) = false := by rw [beq_eq_false_iff_ne]; exact e9
        clear e9
        go_wp2_with fail
        go_ret
        exact ⟨by rw [← hans]; rfl, hB0.out⟩

theorem rLmsVerify_any (pb msg s : ByteArray) (hpb : pb.size ≤ 140737488351232) (hss : s.size ≤ 140737488351232) (w : World) : Calls Try.prog 19 #[.string pb, .string msg, .string s] w fun e w' => e = .returned (.int .i64 (Lms.verify pb.data.toList msg.data.toList s.data.toList)) ∧ Below w.heap.size w w' := by
  have l1 := data_length pb
  have l2 := data_length msg
  have l3 := data_length s
  by_cases hbad : pb.data.toList.length ≠ 56 ∨ rSize (rNum pb.data.toList 0) (rNum pb.data.toList 4) = 0 ∨ s.data.toList.length ≠ rSize (rNum pb.data.toList 0) (rNum pb.data.toList 4) ∨ 65536 < msg.data.toList.length
  · rw [verify_no hbad]
    rw [l1, l2, l3] at hbad
    exact rVerify_no pb msg s hpb hss hbad w
  · have h56 : pb.data.toList.length = 56 := Decidable.byContradiction fun h => hbad (.inl h)
    have h0 : rSize (rNum pb.data.toList 0) (rNum pb.data.toList 4) ≠ 0 := fun h => hbad (.inr (.inl h))
    have hs : s.data.toList.length = rSize (rNum pb.data.toList 0) (rNum pb.data.toList 4) := Decidable.byContradiction fun h => hbad (.inr (.inr (.inl h)))
    have hm : msg.data.toList.length ≤ 65536 := Decidable.byContradiction fun h => hbad (.inr (.inr (.inr (by omega))))
    obtain ⟨o, h, e0, e4, hp, hh, hr, h1, h5, hl⟩ := verify_parts h56 h0 hs
    obtain ⟨T, hT⟩ : ∃ T, numL (pb.data.toList.take 4) = T := ⟨_, rfl⟩
    obtain ⟨K, hK⟩ : ∃ T, numL ((pb.data.toList.drop 4).take 4) = T := ⟨_, rfl⟩
    have hv : Lms.verify pb.data.toList msg.data.toList s.data.toList = if Lms.formOk o h pb.data.toList msg.data.toList s.data.toList then (if Lms.rootOf o h ((pb.data.toList.drop 8).take 16) msg.data.toList s.data.toList = pb.data.toList.drop 24 then 0 else 502) else 500 := by
      unfold Lms.verify
      rw [if_pos h56, hh, hp]
    rw [hv]
    rw [hT] at e0 hh
    rw [hK] at e4 hp
    rw [e0] at hr
    have hP : rNum pb.data.toList 0 = (T : Int) ∧ rNum pb.data.toList 4 = (K : Int) ∧ Ots.par (K : Int) = some o ∧ Lms.heightOf T = some h ∧ rHgt (T : Int) = h ∧ 1 ≤ h ∧ h ≤ 5 ∧ s.data.toList.length = 44 + 32 * o.p + 32 * h := ⟨e0, e4, hp, hh, hr, h1, h5, hl⟩
    by_cases hg : numL (s.data.toList.take 4) < 2 ^ h ∧ numL ((s.data.toList.drop 4).take 4) = K ∧ numL ((s.data.toList.drop (40 + 32 * o.p)).take 4) = T
    · have hf : Lms.formOk o h pb.data.toList msg.data.toList s.data.toList := ⟨hl, hm, hg.1, num_inj (by rw [List.length_take, List.length_drop]; omega) (by rw [List.length_take, List.length_drop]; omega) (hg.2.1.trans hK.symm), num_inj (by rw [List.length_take, List.length_drop]; omega) (by rw [List.length_take]; omega) (hg.2.2.trans hT.symm)⟩
      rw [if_pos hf]
      exact rVerify_good pb msg s hpb hss (by omega) (by omega) T K o h hP hg _ rfl w
    · have hf : ¬ Lms.formOk o h pb.data.toList msg.data.toList s.data.toList := fun hf => hg ⟨hf.2.2.1, by rw [hf.2.2.2.1, hK], by rw [hf.2.2.2.2, hT]⟩
      rw [if_neg hf]
      exact rVerify_form pb msg s hpb hss (by omega) (by omega) T K o h hP hg w


end Go.Proofs.Ytmfajekfipfjpaa
