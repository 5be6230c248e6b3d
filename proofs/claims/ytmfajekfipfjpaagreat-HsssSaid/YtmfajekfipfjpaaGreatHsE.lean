/- Layer 6, the program's side: Verify. -/
import Derived.Test.YtmfajekfipfjpaaGreatLmVe
set_option maxRecDepth 100000
namespace Go.Proofs.YtmfajekfipfjpaaGreat
open Go.RowKit
open Go.Lib (strCells strCells_length strCells_oneCell)
attribute [local irreducible] Sha.compress Sha.blocks Sha.sha Sha.pad

/-- What stands behind a number. -/
def behOk (s : ByteArray) (x : Nat) : Bool := decide (4 ≤ s.size ∧ numL (s.data.toList.take 4) = x)
def behT (s : ByteArray) (x : Nat) : ByteArray := if behOk s x = true then s.extract 4 s.size else ⟨#[]⟩
set_option maxHeartbeats 600000 in
theorem behind_any (s : ByteArray) (x : Nat) (w : World) : Calls Tryz.prog 78 #[.string s, .int .i64 (x : Int)] w fun e w' => e = .returned (.tuple #[.string (behT s x), .bool (behOk s x)]) ∧ Below w.heap.size w w' := by
  by_cases h4 : 4 ≤ s.size
  · have h4i : ¬ (s.size : Int) < 4 := by omega
    have h4j : (4 : Int) ≤ (s.size : Int) := by omega
    obtain ⟨t, ht⟩ : ∃ t, s.extract 0 4 = t := ⟨_, rfl⟩
    have hts : t.size ≤ 4 := by rw [← ht, ByteArray.size_extract]; omega
    have hOf := hid (fun W => Of_any t W hts)
    have htl : t.data.toList = s.data.toList.take 4 := by rw [← ht]; exact cut_list s 4
    rw [htl] at hOf
    obtain ⟨k, hk⟩ : ∃ k, numL (s.data.toList.take 4) = k := ⟨_, rfl⟩
    rw [hk] at hOf
    by_cases he : k = x
    · have hok : behOk s x = true := decide_eq_true ⟨h4, by rw [hk]; exact he⟩
      have hbt : behT s x = s.extract 4 s.size := if_pos hok
      have hei : ((k : Int) != (x : Int)) = false := by rw [he]; simp
      rw [hok, hbt]
      clear hts htl hk
      go_enter Tryz.func78, Tryz.ntmps78
      go_wp2_with fail
      refine (hOf.out _).mono ?_
      rintro e w' ⟨rfl, rfl⟩
      go_wp2_with fail
      go_ret2
      exact ⟨rfl, Below.refl _ _⟩
    · have hok : behOk s x = false := decide_eq_false (fun h => he (by rw [← hk]; exact h.2))
      have hbt : behT s x = ⟨#[]⟩ := if_neg (by rw [hok]; decide)
      have hei : ((k : Int) != (x : Int)) = true := by rw [bne_iff_ne]; omega
      rw [hok, hbt]
      clear hts htl hk
      go_enter Tryz.func78, Tryz.ntmps78
      go_wp2_with fail
      refine (hOf.out _).mono ?_
      rintro e w' ⟨rfl, rfl⟩
      go_wp2_with fail
      go_ret2
      exact ⟨rfl, Below.refl _ _⟩
  · have h4i : (s.size : Int) < 4 := by omega
    have hok : behOk s x = false := decide_eq_false (fun h => h4 h.1)
    have hbt : behT s x = ⟨#[]⟩ := if_neg (by rw [hok]; decide)
    rw [hok, hbt]
    go_enter Tryz.func78, Tryz.ntmps78
    go_wp2_with fail
    go_ret2
    exact ⟨rfl, Below.refl _ _⟩

/-- A kind's numbers; zeros, if it is none. -/
def parOr (k : Nat) : Ots.Par := (Ots.par (k : Int)).getD ⟨0, 0, 0⟩
def slOk (l : List UInt8) : Bool := hgtIs (numL (l.take 4)) && (Ots.par (numL ((l.drop 4).take 4) : Int)).isSome
def slLen (l : List UInt8) : Nat := 44 + 32 * (parOr (numL ((l.drop 4).take 4))).p + 32 * hgt (numL (l.take 4))
theorem hgt_le5 (t : Nat) : hgt t ≤ 5 := by
  unfold hgt
  cases e : Lms.heightOf t with
  | none => exact Nat.zero_le 5
  | some k =>
    rw [Option.getD_some]
    unfold Lms.heightOf at e
    split at e
    · have := Option.some.inj e; omega
    · split at e
      · have := Option.some.inj e; omega
      · cases e
theorem parOr_p (k : Nat) : (parOr k).p ≤ 67 := by
  unfold parOr
  cases e : Ots.par (k : Int) with
  | none => decide
  | some o => exact par_p e
theorem slLen_le (l : List UInt8) : slLen l ≤ 3000 := by
  unfold slLen
  have := hgt_le5 (numL (l.take 4))
  have := parOr_p (numL ((l.drop 4).take 4))
  omega
set_option maxHeartbeats 1000000 in
theorem signLen_any (s : ByteArray) (h8 : 8 ≤ s.size) (w : World) : Calls Tryz.prog 79 #[.string s] w fun e w' => e = .returned (.tuple #[.int .i64 (slLen s.data.toList : Int), .bool (slOk s.data.toList)]) ∧ Below w.heap.size w w' := by
  have b1 : (4 : Int) ≤ (s.size : Int) := by omega
  have b2 : (8 : Int) ≤ (s.size : Int) := by omega
  obtain ⟨t, ht⟩ : ∃ t, s.extract 0 4 = t := ⟨_, rfl⟩
  obtain ⟨u, hu⟩ : ∃ t, s.extract 4 8 = t := ⟨_, rfl⟩
  have hts : t.size ≤ 4 := by rw [← ht, ByteArray.size_extract]; omega
  have hus : u.size ≤ 4 := by rw [← hu, ByteArray.size_extract]; omega
  have hOa := hid (fun W => Of_any t W hts)
  have hOb := hid (fun W => Of_any u W hus)
  have htl : t.data.toList = s.data.toList.take 4 := by rw [← ht]; exact cut_list s 4
  have hul : u.data.toList = (s.data.toList.drop 4).take 4 := by rw [← hu]; exact cut_take s 4 4 (by omega)
  unfold slLen slOk
  rw [← htl, ← hul]
  obtain ⟨a, ha⟩ : ∃ a, numL t.data.toList = a := ⟨_, rfl⟩
  obtain ⟨b, hb⟩ : ∃ a, numL u.data.toList = a := ⟨_, rfl⟩
  rw [ha] at hOa ⊢
  rw [hb] at hOb ⊢
  have hHt := hid (fun W => HeightOf_any a W)
  have hOt := hid (fun W => show Calls Tryz.prog 27 #[.int .i64 (b : Int)] W fun e w' => e = .returned (.tuple #[.agg (parC (parOr b)), .bool (Ots.par (b : Int)).isSome]) ∧ Below W.heap.size W w' from by
    have hc := OtsOf_any (b : Int) W
    have e : parAns (b : Int) = .tuple #[.agg (parC (parOr b)), .bool (Ots.par (b : Int)).isSome] := by
      unfold parAns parOr
      cases Ots.par (b : Int) <;> rfl
    rw [e] at hc
    exact hc)
  have hTl := hid (fun W => TreeLength_any (parOr b) (hgt a) (by have := parOr_p b; omega) (hgt_le5 a) W)
  obtain ⟨h, hh⟩ : ∃ h, hgt a = h := ⟨_, rfl⟩
  obtain ⟨hi, hhi⟩ : ∃ h, hgtIs a = h := ⟨_, rfl⟩
  obtain ⟨ok, hok⟩ : ∃ h, (Ots.par (b : Int)).isSome = h := ⟨_, rfl⟩
  rw [hh, hhi] at hHt
  rw [hok] at hOt
  rw [hh] at hTl
  rw [hh, hhi, hok]
  have h1c : (parC (parOr b)).all (·.oneCell') = true := by simp [parC, Value.oneCell']
  have hocz := hid (show (parC (parOr b)).size = 3 from rfl)
  have hocs := hid (show (Tryz.prog.info? 54).map (·.size) = some (parC (parOr b)).toList.length from Tryz.sizeOts)
  obtain ⟨LL, hLL⟩ : ∃ L, 44 + 32 * (parOr b).p + 32 * h = L := ⟨_, rfl⟩
  rw [hLL] at hTl ⊢
  obtain ⟨oc, hoc⟩ : ∃ c, parC (parOr b) = c := ⟨_, rfl⟩
  rw [hoc] at hOt hTl h1c hocz hocs
  clear hts hus htl hul ha hb hh hhi hok hLL hoc h8
  go_enter Tryz.func79, Tryz.ntmps79
  go_wp2_with fail
  refine (hOa.out _).mono ?_
  rintro e w' ⟨rfl, rfl⟩
  go_wp2_with fail
  refine (hHt.out _).mono ?_
  rintro e W1 ⟨rfl, hb⟩
  have hB1 := hid hb
  clear hb
  go_wp2_with fail
  refine (hOb.out _).mono ?_
  rintro e w' ⟨rfl, hw⟩
  have hw := hw.symm
  subst hw
  go_wp2_with fail
  refine (hOt.out _).mono ?_
  rintro e W2 ⟨rfl, hb⟩
  have hB2 := zup hb hB1
  clear hb hB1
  try (rename_i hKK; refine hKK _ _ ?_; clear hKK)
  have hthere := par_there W2 oc hocz.out
  have hcz := par_size oc hocz.out
  go_wp2_with (first
    | ((with_reducible refine at_slot (some 6) ?_); refine wpList_run rfl (.pointer (some ⟨W2.heap.size, 0, none⟩)) (W2.alloc (.cells noC 54)) (by kernel_rfl) ?_)
    | ((with_reducible refine at_slot none ?_); refine wpList_store_mid rfl 54 (.tmp 6) (.tmp 20) rfl W2.heap.size 0 oc rfl rfl (by exact hthere) (by exact hcz) (by exact h1c) ?_; generalize hW7 : World.setCells _ _ _ _ = W3; have hP7 := par_new oc hocz.out hW7; have hO3 := hid hP7.1; have hB3 := hid (below_up hP7.2 hB2.out); clear hP7 hW7 hthere hcz)
    | ((with_reducible refine at_slot (some 22) ?_); refine wpList_load_mid rfl 54 (.tmp 6) rfl W2.heap.size 0 rfl oc.toList _ (by exact h_all hO3.out) Tryz.underlying54 rfl (by exact hocs.out) ?_)
    | fail)
  refine (hTl.out _).mono ?_
  rintro e W4 ⟨rfl, hb⟩
  have hB4 := zup hb hB3
  clear hb
  cases hi
  · go_wp2_with fail
    go_ret2
    exact ⟨rfl, hB4.out⟩
  · cases ok
    · go_wp2_with fail
      go_ret2
      exact ⟨rfl, hB4.out⟩
    · go_wp2_with fail
      go_ret2
      exact ⟨rfl, hB4.out⟩


end Go.Proofs.YtmfajekfipfjpaaGreat
