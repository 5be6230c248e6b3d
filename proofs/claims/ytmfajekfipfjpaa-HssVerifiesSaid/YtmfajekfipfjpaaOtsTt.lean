/- Layer 4, the reference's side: num; Candidate, the refusals.
   Layer 4, the reference's side: Candidate, the answer. -/
import Derived.Test.YtmfajekfipfjpaaOtsSg
import Derived.Test.YtmfajekfipfjpaaOtsRd
import Derived.Test.YtmfajekfipfjpaaFil6
import Derived.Stop.BytesEq
namespace Go.Proofs.Ytmfajekfipfjpaa
open Go.RowKit
open Go.Lib (strCells strCells_length strCells_oneCell)
attribute [local irreducible] Sha.compress Sha.blocks Sha.sha Sha.pad

/-- What num answers: four bytes as a number. -/
def rNum (l : List UInt8) (a : Nat) : Int := if a + 4 ≤ l.length then (numL ((l.drop a).take 4) : Int) else -1

theorem or_add (a b k : Nat) (hk : k ≤ 24) (hb : b < 2 ^ k) (ha : a < 4294967296) : bits .or .i64 ((a : Int) * 2 ^ k) (b : Int) = (a : Int) * 2 ^ k + (b : Int) := by
  have hp : 2 ^ k ≤ 2 ^ 24 := Nat.pow_le_pow_right (by decide) hk
  have hm : a * 2 ^ k ≤ a * 2 ^ 24 := Nat.mul_le_mul_left _ hp
  have h24 : (2 : Nat) ^ 24 = 16777216 := rfl
  rw [h24] at hp hm
  have e1 : ((a : Int) * 2 ^ k) = ((a * 2 ^ k : Nat) : Int) := by rw [Int.natCast_mul, Int.natCast_pow]; rfl
  rw [e1]
  show IntKind.i64.wrap ((BitVec.ofInt 64 ((a * 2 ^ k : Nat) : Int) ||| BitVec.ofInt 64 (b : Int)).toNat : Int) = _
  rw [BitVec.ofInt_natCast, BitVec.ofInt_natCast, BitVec.toNat_or, BitVec.toNat_ofNat, BitVec.toNat_ofNat, Nat.mod_eq_of_lt (by omega), Nat.mod_eq_of_lt (by omega)]
  have e2 : a * 2 ^ k ||| b = a * 2 ^ k + b := by
    have := Nat.two_pow_add_eq_or_of_lt (i := k) (b := b) hb a
    rw [Nat.mul_comm]
    simpa using this.symm
  rw [e2, IntWalk.i64_in _ (by omega)]
  omega

theorem four4 (l : List UInt8) (a : Nat) (h : a + 4 ≤ l.length) : (l.drop a).take 4 = [l.getD a 0, l.getD (a + 1) 0, l.getD (a + 2) 0, l.getD (a + 3) 0] := by
  apply List.ext_getElem?
  intro i
  have hl : ((l.drop a).take 4).length = 4 := by rw [List.length_take, List.length_drop]; omega
  by_cases hi : i < 4
  · rw [List.getElem?_take, if_pos hi, List.getElem?_drop]
    have hc : i = 0 ∨ i = 1 ∨ i = 2 ∨ i = 3 := by omega
    rcases hc with rfl | rfl | rfl | rfl
    all_goals
      rw [List.getElem?_eq_getElem (by omega)]
      simp [List.getD]
      rw [List.getElem?_eq_getElem (by omega)]
      rfl
  · rw [List.getElem?_eq_none (by omega), List.getElem?_eq_none (by simp; omega)]

set_option maxRecDepth 100000 in
set_option maxHeartbeats 2000000 in
theorem rNum_any (s : ByteArray) (a : Nat) (hs : s.size ≤ 140737488351232) (ha : a ≤ 140737488351232) (w : World) :
    Calls Try.prog 52 #[.string s, .int .i64 (a : Int)] w fun e w' => e = .returned (.int .i64 (rNum s.data.toList a)) ∧ ∃ m, w' = w.drewN m := by
  have hl : s.data.toList.length = s.size := data_length s
  by_cases h : a + 4 ≤ s.size
  · have e : rNum s.data.toList a = (numL ((s.data.toList.drop a).take 4) : Int) := by unfold rNum; rw [if_pos (by omega)]
    rw [e, four4 _ _ (by omega)]
    have i0 := str_byte s a (by omega) (a : Int) rfl
    have i1 := str_byte s (a + 1) (by omega) ((a : Int) + 1) (by omega)
    have i2 := str_byte s (a + 2) (by omega) ((a : Int) + 2) (by omega)
    have i3 := str_byte s (a + 3) (by omega) ((a : Int) + 3) (by omega)
    obtain ⟨x0, hx0⟩ : ∃ x, s.data.toList.getD a 0 = x := ⟨_, rfl⟩
    obtain ⟨x1, hx1⟩ : ∃ x, s.data.toList.getD (a + 1) 0 = x := ⟨_, rfl⟩
    obtain ⟨x2, hx2⟩ : ∃ x, s.data.toList.getD (a + 2) 0 = x := ⟨_, rfl⟩
    obtain ⟨x3, hx3⟩ : ∃ x, s.data.toList.getD (a + 3) 0 = x := ⟨_, rfl⟩
    rw [hx0] at i0
    rw [hx1] at i1
    rw [hx2] at i2
    rw [hx3] at i3
    rw [hx0, hx1, hx2, hx3]
    have hxl0 := x0.toNat_lt
    have hxl1 := x1.toNat_lt
    have hxl2 := x2.toNat_lt
    have hxl3 := x3.toNat_lt
    have hn : (numL [x0, x1, x2, x3] : Int) = (x0.toNat : Int) * 16777216 + (x1.toNat : Int) * 65536 + (x2.toNat : Int) * 256 + (x3.toNat : Int) := by
      simp [numL]
      omega
    have o1 := or_add x0.toNat (x1.toNat * 65536) 24 (by decide) (by omega) (by omega)
    have o2 := or_add (x0.toNat * 256 + x1.toNat) (x2.toNat * 256) 16 (by decide) (by omega) (by omega)
    have o3 := or_add ((x0.toNat * 256 + x1.toNat) * 256 + x2.toNat) x3.toNat 8 (by decide) (by omega) (by omega)
    have p1 : bits .or .i64 ((x0.toNat : Int) * 16777216) ((x1.toNat : Int) * 65536) = (x0.toNat : Int) * 16777216 + (x1.toNat : Int) * 65536 := by
      have e1 : ((x1.toNat * 65536 : Nat) : Int) = (x1.toNat : Int) * 65536 := by omega
      rw [e1] at o1
      exact o1
    have p2 : bits .or .i64 ((x0.toNat : Int) * 16777216 + (x1.toNat : Int) * 65536) ((x2.toNat : Int) * 256) = (x0.toNat : Int) * 16777216 + (x1.toNat : Int) * 65536 + (x2.toNat : Int) * 256 := by
      have e1 : ((x2.toNat * 256 : Nat) : Int) = (x2.toNat : Int) * 256 := by omega
      have e2 : ((x0.toNat * 256 + x1.toNat : Nat) : Int) * 2 ^ 16 = (x0.toNat : Int) * 16777216 + (x1.toNat : Int) * 65536 := by omega
      rw [e1, e2] at o2
      exact o2
    have p3 : bits .or .i64 ((x0.toNat : Int) * 16777216 + (x1.toNat : Int) * 65536 + (x2.toNat : Int) * 256) (x3.toNat : Int) = (x0.toNat : Int) * 16777216 + (x1.toNat : Int) * 65536 + (x2.toNat : Int) * 256 + (x3.toNat : Int) := by
      have e2 : (((x0.toNat * 256 + x1.toNat) * 256 + x2.toNat : Nat) : Int) * 2 ^ 8 = (x0.toNat : Int) * 16777216 + (x1.toNat : Int) * 65536 + (x2.toNat : Int) * 256 := by omega
      rw [e2] at o3
      exact o3
    have hP := hid (And.intro p1 (And.intro p2 p3))
    have hn' := hid hn
    have hI := hid (And.intro i0 (And.intro i1 (And.intro i2 i3)))
    have hlen : (a : Int) ≤ (s.size : Int) - 4 := by omega
    have hgt : ¬ (s.size : Int) - 4 < (a : Int) := by omega
    have ha0 : ¬ (a : Int) < 0 := by omega
    clear hx0 hx1 hx2 hx3 o1 o2 o3 p1 p2 p3 hn i0 i1 i2 i3 e hl
    go_enter Try.func52, Try.ntmps52
    go_wp2_with fail
    have q0 := IntWalk.i64_in (x0.toNat : Int) (by omega)
    have q1 := IntWalk.i64_in (x1.toNat : Int) (by omega)
    have q2 := IntWalk.i64_in (x2.toNat : Int) (by omega)
    have q3 := IntWalk.i64_in (x3.toNat : Int) (by omega)
    have r0 := IntWalk.i64_in ((x0.toNat : Int) * 16777216) (by omega)
    have r1 := IntWalk.i64_in ((x1.toNat : Int) * 65536) (by omega)
    have r2 := IntWalk.i64_in ((x2.toNat : Int) * 256) (by omega)
    have t1 := IntWalk.i64_in ((a : Int) + 1) (by omega)
    have t2 := IntWalk.i64_in ((a : Int) + 2) (by omega)
    have t3 := IntWalk.i64_in ((a : Int) + 3) (by omega)
    refine wp_region_held_drew (S := fun _ => True) (by kernel_rfl) (by exact True.intro) (fun hHeld => ?_)
    refine tkx 0 (.string s) hHeld ?_; simp only [ly, Act.put]
    refine tkx 1 (.int .i64 (a : Int)) hHeld ?_; simp only [ly, Act.put]
    refine tkx 2 (.int .u8 (x0.toNat : Int)) hHeld ?_ (hy := .inl ⟨by kernel_rfl, fun w _ => by have h := hI.out.1 w; go_simp⟩); simp only [ly, Act.put]
    refine tkx 3 (.int .i64 (x0.toNat : Int)) hHeld ?_; simp only [ly, Act.put]
    refine tkx 4 (.int .i64 ((x0.toNat : Int) * 16777216)) hHeld ?_; simp only [ly, Act.put]
    refine tkx 5 (.string s) hHeld ?_; simp only [ly, Act.put]
    refine tkx 6 (.int .i64 (a : Int)) hHeld ?_; simp only [ly, Act.put]
    refine tkx 7 (.int .i64 ((a : Int) + 1)) hHeld ?_; simp only [ly, Act.put]
    refine tkx 8 (.int .u8 (x1.toNat : Int)) hHeld ?_ (hy := .inl ⟨by kernel_rfl, fun w _ => by have h := hI.out.2.1 w; go_simp⟩); simp only [ly, Act.put]
    refine tkx 9 (.int .i64 (x1.toNat : Int)) hHeld ?_; simp only [ly, Act.put]
    refine tkx 10 (.int .i64 ((x1.toNat : Int) * 65536)) hHeld ?_; simp only [ly, Act.put]
    refine tkx 11 (.int .i64 ((x0.toNat : Int) * 16777216 + (x1.toNat : Int) * 65536)) hHeld ?_ (hy := .inl ⟨by kernel_rfl, fun w _ => by have h := hP.out.1; go_simp⟩); simp only [ly, Act.put]
    refine tkx 12 (.string s) hHeld ?_; simp only [ly, Act.put]
    refine tkx 13 (.int .i64 (a : Int)) hHeld ?_; simp only [ly, Act.put]
    refine tkx 14 (.int .i64 ((a : Int) + 2)) hHeld ?_; simp only [ly, Act.put]
    refine tkx 15 (.int .u8 (x2.toNat : Int)) hHeld ?_ (hy := .inl ⟨by kernel_rfl, fun w _ => by have h := hI.out.2.2.1 w; go_simp⟩); simp only [ly, Act.put]
    refine tkx 16 (.int .i64 (x2.toNat : Int)) hHeld ?_; simp only [ly, Act.put]
    refine tkx 17 (.int .i64 ((x2.toNat : Int) * 256)) hHeld ?_; simp only [ly, Act.put]
    refine tkx 18 (.int .i64 ((x0.toNat : Int) * 16777216 + (x1.toNat : Int) * 65536 + (x2.toNat : Int) * 256)) hHeld ?_ (hy := .inl ⟨by kernel_rfl, fun w _ => by have h := hP.out.2.1; go_simp⟩); simp only [ly, Act.put]
    refine tkx 19 (.string s) hHeld ?_; simp only [ly, Act.put]
    refine tkx 20 (.int .i64 (a : Int)) hHeld ?_; simp only [ly, Act.put]
    refine tkx 21 (.int .i64 ((a : Int) + 3)) hHeld ?_; simp only [ly, Act.put]
    refine tkx 22 (.int .u8 (x3.toNat : Int)) hHeld ?_ (hy := .inl ⟨by kernel_rfl, fun w _ => by have h := hI.out.2.2.2 w; go_simp⟩); simp only [ly, Act.put]
    refine tkx 23 (.int .i64 (x3.toNat : Int)) hHeld ?_; simp only [ly, Act.put]
    refine tkx 24 (.int .i64 ((x0.toNat : Int) * 16777216 + (x1.toNat : Int) * 65536 + (x2.toNat : Int) * 256 + (x3.toNat : Int))) hHeld ?_ (hy := .inl ⟨by kernel_rfl, fun w _ => by have h := hP.out.2.2; go_simp⟩); simp only [ly, Act.put]
    refine tkx 25 (.int .i64 ((x0.toNat : Int) * 16777216 + (x1.toNat : Int) * 65536 + (x2.toNat : Int) * 256 + (x3.toNat : Int))) hHeld ?_; simp only [ly, Act.put]
    refine wpAnyH_done (by kernel_rfl) ?_ _
    go_wp2_with fail
    go_ret
    exact ⟨by rw [hn'.out]; rfl, 1, rfl⟩
  · have e : rNum s.data.toList a = -1 := by unfold rNum; rw [if_neg (by omega)]
    rw [e]
    have hgt : (s.size : Int) - 4 < (a : Int) := by omega
    have ha0 : ¬ (a : Int) < 0 := by omega
    go_enter Try.func52, Try.ntmps52
    go_wp2_with fail
    go_ret
    exact ⟨rfl, 0, rfl⟩

theorem rcand_none {q : Int} {id msg s : ByteArray} (h : candGood q id msg s = none) : ∃ x y z : Int, refPar (rNum s.data.toList 0) = .tuple #[.int .i64 x, .int .i64 y, .int .i64 z] ∧
    (x = 0 ∨ (x ≠ 0 ∧ Ots.may id.size q = false) ∨ (x ≠ 0 ∧ Ots.may id.size q = true ∧ 65536 < msg.size) ∨ (x ≠ 0 ∧ Ots.may id.size q = true ∧ msg.size ≤ 65536 ∧ ∃ p : Nat, y = (p : Int) ∧ p ≤ 100 ∧ s.size ≠ 36 + 32 * p)) := by
  have hl : s.data.toList.length = s.size := data_length s
  unfold candGood at h
  unfold rNum refPar
  split at h
  · rename_i h4
    rw [if_neg (by omega)]
    exact ⟨0, 0, 0, rfl, .inl rfl⟩
  · rename_i h4
    rw [if_pos (by omega), List.drop_zero]
    cases hp : Ots.par (numL (s.data.toList.take 4) : Int) with
    | none => exact ⟨0, 0, 0, rfl, .inl rfl⟩
    | some o =>
      obtain ⟨m, ho⟩ := par_ok hp
      have hw1 := ho.w1
      have hp100 := ho.p100
      refine ⟨o.w, o.p, o.ls, rfl, .inr ?_⟩
      rw [hp] at h
      simp only at h
      split at h
      · cases h
      · rename_i hc
        cases hm : Ots.may id.size q
        · exact .inl ⟨by omega, rfl⟩
        · by_cases hb : msg.size ≤ 65536
          · exact .inr (.inr ⟨by omega, rfl, hb, o.p, rfl, hp100, fun hs => hc ⟨hs, hm, hb⟩⟩)
          · exact .inr (.inl ⟨by omega, rfl, by omega⟩)

set_option maxRecDepth 100000 in
set_option maxHeartbeats 2000000 in
theorem rCandidate_bad (q : Int) (id msg sign : ByteArray) (hbad : candGood q id msg sign = none) (hms : msg.size ≤ 140737488351232) (hss : sign.size ≤ 140737488351232) (w : World) :
    Calls Try.prog 56 #[.string id, .int .i64 q, .string msg, .string sign] w fun e w' => e = .returned (.tuple #[.agg z32, .int .i64 400]) ∧ Below w.heap.size w w' := by
  obtain ⟨W1, hW1⟩ : ∃ W1, w.alloc (.cells z32 44) = W1 := ⟨_, rfl⟩
  have hH1 : Holds W1 w.heap.size 44 z32.toList := by rw [← hW1]; exact Holds.new w _ _
  have hb1 : Below w.heap.size w W1 := by rw [← hW1]; exact (Below.refl _ _).alloc (Nat.le_refl _) _
  have hW1' := hid hW1
  obtain ⟨x, y, z, hans, hok⟩ := rcand_none hbad
  have hans' := hid hans
  have hz32 := hv_size (List.replicate 32 0) (List.length_replicate ..)
  have hzc : (byteCells (List.replicate 32 0)).toArray = z32 := by kernel_rfl
  rw [hzc] at hz32
  have hz1c := all_oneCell_toArray (byteCells_one (List.replicate 32 0))
  rw [hzc] at hz1c
  have hnm := hid (fun W => rNum_any sign 0 hss (by decide) W)
  have hfin := hid (fun (mm : Nat) => (by
    have hb2 : Below w.heap.size w (W1.drewN mm) := hb1.trans ⟨rfl, rfl, rfl, Nat.le_refl _, fun _ _ => rfl⟩
    have hH2 : Holds (W1.drewN mm) w.heap.size 44 z32.toList := hH1
    exact ⟨hH2.there 0 32 (by decide), below_setCells hb2 w.heap.size 0 z32.toList (Nat.le_refl _), zero_again hH2⟩ :
      (W1.drewN mm).there w.heap.size 0 32 ∧ Below w.heap.size w ((W1.drewN mm).setCells w.heap.size 0 z32.toList) ∧ Holds ((W1.drewN mm).setCells w.heap.size 0 z32.toList) w.heap.size 44 z32.toList))
  generalize rNum sign.data.toList 0 = kd at *
  clear hW1 hH1 hb1 hans hbad
  go_enter Try.func56, Try.ntmps56
  go_wp2_with ((with_reducible refine at_slot (some 8) ?_); refine wpList_run rfl (.pointer (some ⟨w.heap.size, 0, none⟩)) (w.alloc (.cells z32 44)) (by kernel_rfl) ?_; rw [hW1'.out])
  refine (hnm.out _).mono ?_
  rintro e w' ⟨rfl, mm, rfl⟩
  obtain ⟨hth, hb9', hp9'⟩ := hfin.out mm
  have hb9 := hid hb9'
  have hp9 := hid hp9'
  clear hb9' hp9'
  generalize World.drewN _ mm = W2 at *
  go_wp2_with fail
  refine (Params_any kd _).mono ?_
  rintro e w' ⟨rfl, rfl⟩
  rw [hans'.out]
  rename_i hK1
  refine hK1 _ _ ?_
  clear hK1
  rcases hok with rfl | ⟨hx, hm⟩ | ⟨hx, hm, hbig⟩ | ⟨hx, hm, hsm, p, rfl, hp, hsz⟩
  · go_wp2_with (first
      | ((with_reducible refine at_slot (some 47) ?_); refine wpList_run rfl (.agg z32) _ (by kernel_rfl) ?_)
      | ((with_reducible refine at_slot none ?_); refine wpList_store_mid rfl 44 (.tmp 8) (.tmp 47) rfl w.heap.size 0 z32 rfl rfl (by exact hth) (by exact hz32) (by exact hz1c) ?_; generalize hW9 : World.setCells _ _ _ _ = W9; rw [hW9] at hp9 hb9))
    exact bodyPost_ret (results_ct rfl _ _ w.heap.size 44 z32 (0, 0) _ rfl hp9.out (.int .i64 400) rfl Try.underlying44 rfl (by exact hz32)) rfl ⟨rfl, hb9.out⟩
  · have hx0 : (x == 0) = false := by simpa using hx
    go_wp2_with (first
      | ((with_reducible refine at_slot (some 47) ?_); refine wpList_run rfl (.agg z32) _ (by kernel_rfl) ?_)
      | ((with_reducible refine at_slot none ?_); refine wpList_store_mid rfl 44 (.tmp 8) (.tmp 47) rfl w.heap.size 0 z32 rfl rfl (by exact hth) (by exact hz32) (by exact hz1c) ?_; generalize hW9 : World.setCells _ _ _ _ = W9; rw [hW9] at hp9 hb9)
      | (go_at_call 80; refine (otsMay_any id q _).mono ?_; rintro e w' ⟨rfl, rfl⟩; rw [hm]))
    exact bodyPost_ret (results_ct rfl _ _ w.heap.size 44 z32 (0, 0) _ rfl hp9.out (.int .i64 400) rfl Try.underlying44 rfl (by exact hz32)) rfl ⟨rfl, hb9.out⟩
  · have hx0 : (x == 0) = false := by simpa using hx
    have hb1 : decide ((65536 : Int) < (msg.size : Int)) = true := by simp; omega
    go_wp2_with (first
      | ((with_reducible refine at_slot (some 47) ?_); refine wpList_run rfl (.agg z32) _ (by kernel_rfl) ?_)
      | ((with_reducible refine at_slot none ?_); refine wpList_store_mid rfl 44 (.tmp 8) (.tmp 47) rfl w.heap.size 0 z32 rfl rfl (by exact hth) (by exact hz32) (by exact hz1c) ?_; generalize hW9 : World.setCells _ _ _ _ = W9; rw [hW9] at hp9 hb9)
      | (go_at_call 80; refine (otsMay_any id q _).mono ?_; rintro e w' ⟨rfl, rfl⟩; rw [hm]))
    exact bodyPost_ret (results_ct rfl _ _ w.heap.size 44 z32 (0, 0) _ rfl hp9.out (.int .i64 400) rfl Try.underlying44 rfl (by exact hz32)) rfl ⟨rfl, hb9.out⟩
  · have hx0 : (x == 0) = false := by simpa using hx
    have hb1 : decide ((65536 : Int) < (msg.size : Int)) = false := by simp; omega
    have hne : ((sign.size : Int) != 36 + 32 * (p : Int)) = true := by simp; omega
    have hne2 : ((sign.size : Int) == 36 + 32 * (p : Int)) = false := by simp; omega
    go_wp2_with (first
      | ((with_reducible refine at_slot (some 47) ?_); refine wpList_run rfl (.agg z32) _ (by kernel_rfl) ?_)
      | ((with_reducible refine at_slot none ?_); refine wpList_store_mid rfl 44 (.tmp 8) (.tmp 47) rfl w.heap.size 0 z32 rfl rfl (by exact hth) (by exact hz32) (by exact hz1c) ?_; generalize hW9 : World.setCells _ _ _ _ = W9; rw [hW9] at hp9 hb9)
      | (go_at_call 80; refine (otsMay_any id q _).mono ?_; rintro e w' ⟨rfl, rfl⟩; rw [hm]))
    exact bodyPost_ret (results_ct rfl _ _ w.heap.size 44 z32 (0, 0) _ rfl hp9.out (.int .i64 400) rfl Try.underlying44 rfl (by exact hz32)) rfl ⟨rfl, hb9.out⟩

end Go.Proofs.Ytmfajekfipfjpaa
namespace Go.Proofs.Ytmfajekfipfjpaa
open Go.RowKit
open Go.Lib (strCells strCells_length strCells_oneCell)
attribute [local irreducible] Sha.compress Sha.blocks Sha.sha Sha.pad

/-- What lies where while the reference makes a candidate. -/
structure CndR (w wr : World) (D : List Nat) (gD : Nat) (T : ByteArray) (g c : Nat) : Prop where
  r : Holds wr w.heap.size 44 z32.toList
  d : Nums wr gD D
  row : RowB wr 5 T g c
  lo : w.heap.size < gD
  lg : gD < g
  b : Below w.heap.size w wr

theorem CndR.below {w wr w' : World} {D : List Nat} {gD : Nat} {T : ByteArray} {g c : Nat} (h : CndR w wr D gD T g c) (hb : Below wr.heap.size wr w') : CndR w w' D gD T g c :=
  ⟨h.r.below hb h.r.lt, h.d.below hb h.d.lt, h.row.below hb h.row.lt, h.lo, h.lg, h.b.trans (hb.mono h.b.size)⟩

theorem CndR.more {w wr w' : World} {D : List Nat} {gD : Nat} {T T' : ByteArray} {g c g' c' : Nat} (h : CndR w wr D gD T g c) (hR : RowB w' 5 T' g' c') (hg : wr.grownBy w' (some g)) (hf : g' = g ∨ wr.heap.size ≤ g') : CndR w w' D gD T' g' c' := by
  have h1 := h.lo
  have h2 := h.lg
  have h3 := h.row.lt
  refine ⟨h.r.grown hg (fun e => by have := Option.some.inj e; omega), h.d.of_block (hg.block gD (by omega) (fun e => by have := Option.some.inj e; omega)), hR, h1, by omega, h.b.grown hg h.b.size (fun k e => by have := Option.some.inj e; omega)⟩

theorem CndR.start {w wr w' : World} {D : List Nat} {gD : Nat} {T : ByteArray} {c : Nat} (hr : Holds wr w.heap.size 44 z32.toList) (hd : Nums wr gD D) (hlo : w.heap.size < gD) (hb : Below w.heap.size w wr) (hR : RowB w' 5 T wr.heap.size c) (hb' : Below wr.heap.size wr w') : CndR w w' D gD T wr.heap.size c :=
  ⟨hr.below hb' hr.lt, hd.below hb' hd.lt, hR, hlo, hd.lt, hb.trans (hb'.mono hb.size)⟩

theorem cut_part (s : ByteArray) (k : Nat) : s.extract (36 + 32 * k) (68 + 32 * k) = txt (Ots.part s.data.toList k) := by
  apply bytes_ext
  rw [txt_list]
  unfold Ots.part
  have e : 68 + 32 * k - (36 + 32 * k) = 32 := by omega
  simp [e]

set_option maxRecDepth 100000 in
set_option maxHeartbeats 2000000 in
theorem rCandidate_good (q : Int) (id msg sign : ByteArray) (o : Ots.Par) (hgood : candGood q id msg sign = some o) (w : World) :
    Calls Try.prog 56 #[.string id, .int .i64 q, .string msg, .string sign] w fun e w' => e = .returned (.tuple #[hv (Ots.cand o (Ots.head id.data.toList q.toNat) msg.data.toList sign.data.toList), .int .i64 0]) ∧ Below w.heap.size w w' := by
  obtain ⟨i0, hi, hz0, hz1, hz2⟩ := info_parts Try.infoU8
  obtain ⟨hpar, hss, hm, hms, -⟩ := cand_parts hgood
  obtain ⟨hid16, n, rfl, hn⟩ := may_parts hm
  obtain ⟨m, ho⟩ := par_ok hpar
  obtain ⟨kd, hkd⟩ : ∃ kd, (numL (sign.data.toList.take 4) : Int) = kd := ⟨_, rfl⟩
  rw [hkd] at hpar
  have hkn : rNum sign.data.toList 0 = kd := by
    unfold rNum
    rw [if_pos (by rw [data_length]; omega), List.drop_zero, hkd]
  have hans : refPar kd = .tuple #[.int .i64 (o.w : Int), .int .i64 (o.p : Int), .int .i64 (o.ls : Int)] := by unfold refPar; rw [hpar]
  have hans' := hid hans
  have hnm := hid (fun W => rNum_any sign 0 (by have := ho.p100; omega) (by decide) W)
  rw [hkn] at hnm
  have hd := hid (head_list id n)
  have hhs : (id ++ be 4 n).size = 20 := by rw [ByteArray.size_append, be_size, hid16]
  have hcat : id.size + (be 4 n).size ≤ 9223372036854775807 := by rw [be_size, hid16]; decide
  rw [Int.toNat_natCast]
  obtain ⟨hd2, hhd⟩ : ∃ t, Ots.head id.data.toList n = t := ⟨_, rfl⟩
  rw [hhd]
  rw [hhd] at hd
  obtain ⟨H, hH⟩ : ∃ H, id ++ be 4 n = H := ⟨_, rfl⟩
  rw [hH] at hd hhs
  have hd' := hid hd.out
  have hdl : hd2.length = 20 := by rw [← hd.out, data_length, hhs]
  have hp100 := ho.p100
  have hw8 := ho.w8
  have hw1 := ho.w1
  have htw := hid (top_wrap2 o.w hw8)
  have htop : o.top ≤ 255 := by
    have := Nat.pow_le_pow_right (n := 2) (by omega) hw8
    unfold Ots.Par.top
    omega
  have htd : o.top = 2 ^ o.w - 1 := rfl
  rw [← htd] at htw
  have hss36 : (36 : Int) ≤ (sign.size : Int) := by omega
  obtain ⟨S4, hS4⟩ : ∃ S4, sign.extract 4 36 = S4 := ⟨_, rfl⟩
  have hS4l : S4.data.toList = (sign.data.toList.drop 4).take 32 := by rw [← hS4]; exact cut4 sign
  have hS4s : S4.size = 32 := by rw [← data_length, hS4l, List.length_take, List.length_drop, data_length]; omega
  have hpl := hid (fun k (hk : k < o.p) => part_len sign o hss k hk)
  have hdg := hid (fun W => rDigits_any kd o m hpar ho H S4 msg W (by omega) (by omega) (by omega))
  rw [hd'.out, hS4l] at hdg
  obtain ⟨D, hD⟩ : ∃ D, Ots.digits o hd2 ((sign.data.toList.drop 4).take 32) msg.data.toList = D := ⟨_, rfl⟩
  rw [hD] at hdg
  have hDp : D.length = o.p := by rw [← hD]; exact digits_len o m ho _ _ _
  have hDt : ∀ i, D.getD i 0 ≤ o.top := fun i => by rw [← hD]; exact Ots.digits_le o _ _ _ i
  obtain ⟨f, hf⟩ : ∃ f : Nat → List UInt8, (fun i => Ots.steps hd2 i (D.getD i 0) (o.top - D.getD i 0) (Ots.part sign.data.toList i)) = f := ⟨_, rfl⟩
  have hcand : Ots.cand o hd2 msg.data.toList sign.data.toList = Sha.sha (hd2 ++ [0x80, 0x80] ++ ((List.range o.p).map f).flatten) := by rw [← hf, ← hD]; rfl
  have hwk : ∀ (i : Nat) W, i < o.p → Calls Try.prog 82 #[.string H, .int .i64 (i : Int), .int .i64 ((D.getD i 0 : Nat) : Int), .int .i64 (o.top : Int), .string (txt (Ots.part sign.data.toList i))] W fun e w' => e = .returned (.string (txt (f i))) ∧ Below W.heap.size W w' := fun i W hi => by
    have h := rSteps_any H i (D.getD i 0) o.top (Ots.part sign.data.toList i) W (hpl.out i hi) (by omega) (by omega) (by omega) (by have := hDt i; omega)
    rw [hd.out] at h
    rw [← hf]
    exact h
  have hf32 : ∀ i, i < o.p → (f i).length = 32 := fun i hi => by
    rw [← hf]
    exact steps_len _ _ _ _ (hpl.out i hi) _
  have hbe := hid (fun W => Be_any (n : Int) 4 4 rfl (by decide) n rfl (by omega) W)
  rw [hcand]
  obtain ⟨fl, hfl⟩ : ∃ fl : Nat → List UInt8, (fun k => ((List.range k).map f).flatten) = fl := ⟨_, rfl⟩
  have hfl0 : fl 0 = [] := by rw [← hfl]; rfl
  have hflp : ((List.range o.p).map f).flatten = fl o.p := by rw [← hfl]
  have hfln : ∀ k, fl (k + 1) = fl k ++ f k := fun k => by rw [← hfl]; exact Ots.flat_next f k
  have hfl32 : ∀ k, k ≤ o.p → (fl k).length = 32 * k := fun k => by
    induction k with
    | zero => intro _; rw [hfl0]; rfl
    | succ k ih =>
      intro hk
      rw [hfln, List.length_append, ih (by omega), hf32 k (by omega)]
      omega
  rw [hflp]
  have hwk' := hid hwk
  have hf32' := hid hf32
  have hfl0' := hid hfl0
  have hfl32' := hid hfl32
  have hfln' := hid hfln
  have hDp' := hid hDp
  have hDt' := hid hDt
  obtain ⟨W1, hW1⟩ : ∃ W1, w.alloc (.cells z32 44) = W1 := ⟨_, rfl⟩
  have hH1 : Holds W1 w.heap.size 44 z32.toList := by rw [← hW1]; exact Holds.new w _ _
  have hb1 : Below w.heap.size w W1 := by rw [← hW1]; exact (Below.refl _ _).alloc (Nat.le_refl _) _
  have hs1 : W1.heap.size = w.heap.size + 1 := by rw [← hW1]; simp
  have hW1' := hid hW1
  have hH1' := hid hH1
  have hb1' := hid hb1
  have hs1' := hid hs1
  have h8080 : (⟨#[128, 128]⟩ : ByteArray).size = 2 := rfl
  have hcat2 : H.size + (⟨#[128, 128]⟩ : ByteArray).size ≤ 9223372036854775807 := by rw [hhs, h8080]; decide
  obtain ⟨T0, hT0⟩ : ∃ T0, H ++ (⟨#[128, 128]⟩ : ByteArray) = T0 := ⟨_, rfl⟩
  have hT0l : T0.data.toList = hd2 ++ [0x80, 0x80] := by rw [← hT0, data_append, hd'.out]
  have hT0s : T0.size = 22 := by rw [← data_length, hT0l]; simp [hdl]
  have hT0l' := hid hT0l
  have hT0s' := hid hT0s
  have hss' := hid hss
  have hx0 : ((o.w : Int) == 0) = false := by
    simp
    omega
  have hb0 : decide ((65536 : Int) < (msg.size : Int)) = false := by simp; omega
  have hne : ((sign.size : Int) != 36 + 32 * (o.p : Int)) = false := by simp; omega
  have hne2 : ((sign.size : Int) == 36 + 32 * (o.p : Int)) = true := by simp; omega
  clear hans hgood hpar hwk hf32 hf hcand hhd hd ho hD hDp hDt hS4l hS4s hW1 hH1 hb1 hs1 hfl hflp hfl0 hfl32 hfln hT0l hT0s htd hss hkn
  go_enter Try.func56, Try.ntmps56
  go_wp2_with ((with_reducible refine at_slot (some 8) ?_); refine wpList_run rfl (.pointer (some ⟨w.heap.size, 0, none⟩)) (w.alloc (.cells z32 44)) (by kernel_rfl) ?_; rw [hW1'.out])
  refine (hnm.out _).mono ?_
  rintro e w' ⟨rfl, mm, rfl⟩
  have hbd : Below W1.heap.size W1 (W1.drewN mm) := ⟨rfl, rfl, rfl, Nat.le_refl _, fun _ _ => rfl⟩
  have hH2 := hid (hH1'.out.below hbd hH1'.out.lt)
  have hB2 := hid (hb1'.out.trans (hbd.mono hb1'.out.size))
  have hs2 : w.heap.size < (W1.drewN mm).heap.size := by have := hbd.size; have := hs1'.out; omega
  clear hbd
  generalize W1.drewN mm = W2 at *
  go_wp2_with fail
  refine (Params_any kd _).mono ?_
  rintro e w' ⟨rfl, rfl⟩
  rw [hans'.out]
  rename_i hK1
  refine hK1 _ _ ?_
  clear hK1
  go_wp2_with (go_at_call 80; refine (otsMay_any id _ _).mono ?_; rintro e w' ⟨rfl, rfl⟩; rw [hm])
  refine (hbe.out _).mono ?_
  rintro e W3 ⟨rfl, hb3⟩
  have hH3 := hid (hH2.out.below hb3 hH2.out.lt)
  have hB3 := hid (hB2.out.trans (hb3.mono hB2.out.size))
  have hs3 : w.heap.size < W3.heap.size := by have := hb3.size; omega
  clear hb3 hs2
  go_wp2_with fail
  refine (hdg.out _).mono ?_
  rintro e W5 ⟨gD, cD, rfl, hgD, hN5, hb5⟩
  have hH5 := hid (hH3.out.below hb5 hH3.out.lt)
  have hB5 := hid (hB3.out.trans (hb5.mono hB3.out.size))
  have hgD' := hid (Nat.lt_of_lt_of_le hs3 hgD)
  have hN5' := hid hN5
  clear hb5 hgD hN5 hs3
  obtain ⟨c0, W7, hcv, hR7, hb7⟩ := run_bytes_row (P := Try.prog) W5 9 49 5 T0 Try.underlying9 Try.underlying49 Try.underlying5 (by have := hT0s'.out; omega)
  have hP7 := hid (CndR.start hH5.out hN5'.out hgD'.out hB5.out hR7 hb7)
  clear hR7 hb7
  go_wp2_with fail
  clear hT0 hcv
  generalize W5.heap.size = g0 at *
  go_loopw [16, 17] (fun out i wr => ∃ (k : Nat) (T : ByteArray) (g c : Nat), k ≤ o.p ∧ i = .int .i64 (k : Int) ∧ out = .slice (some ⟨g, 0, none⟩) T.size c ∧ T.data.toList = hd2 ++ [0x80, 0x80] ++ fl k ∧ CndR w wr D gD T g c) (fun _ i _ => o.p - (intOf i).toNat)
  case atStart => exact ⟨0, T0, _, _, Nat.zero_le _, rfl, rfl, by rw [hT0l'.out, hfl0'.out, List.append_nil], hP7.out⟩
  case round =>
    obtain ⟨k, T, g, c, hk, rfl, rfl, hT, hP⟩ := hrel
    have hTs : T.size = 22 + 32 * k := by
      rw [← data_length, hT, List.length_append, hfl32'.out k hk]
      simp [hdl]
    have hP' := hid hP
    have hT' := hid hT
    have hTs' := hid hTs
    clear hP hT hTs
    by_cases hlt : k < o.p
    · have hkp : (k : Int) < (o.p : Int) := by omega
      have hk0 : (0 : Int) ≤ (k : Int) := by omega
      have hwk := hid (fun W => hwk'.out k W hlt)
      have hfk := hf32'.out k hlt
      have hnx := hfln'.out k
      have hTn : (T ++ txt (f k)).data.toList = hd2 ++ [0x80, 0x80] ++ fl (k + 1) := by rw [txt_append, hT'.out, hnx]; simp only [List.append_assoc]
      have hTn' := hid hTn
      have hfs : (txt (f k)).size = 32 := by rw [txt_size, hfk]
      have hDk : D[k]? = some (D.getD k 0) := by
        have := hDp'.out
        rw [List.getD, List.getElem?_eq_getElem (by omega)]
        rfl
      have hDk' := hid hDk
      have hcp := cut_part sign k
      obtain ⟨pk, hpke⟩ : ∃ pk, Ots.part sign.data.toList k = pk := ⟨_, rfl⟩
      rw [hpke] at hcp hwk
      have hcp' := hid hcp
      have m1 := IntWalk.i64_in (32 * (k : Int)) (by omega)
      have m2 := IntWalk.i64_in (36 + 32 * (k : Int)) (by omega)
      have m3 := IntWalk.i64_in (68 + 32 * (k : Int)) (by omega)
      have e2 : (36 + 32 * (k : Int)).toNat = 36 + 32 * k := by omega
      have e3 : (68 + 32 * (k : Int)).toNat = 68 + 32 * k := by omega
      have b1 : (0 : Int) ≤ 36 + 32 * (k : Int) := by omega
      have b2 : (36 + 32 * (k : Int)) ≤ 68 + 32 * (k : Int) := by omega
      have b3 : (68 + 32 * (k : Int)) ≤ (sign.size : Int) := by have := hss'.out; omega
      clear hTn hnx hDk hpke
      generalize f k = fk at *
      obtain ⟨d, hd0⟩ : ∃ d, D.getD k 0 = d := ⟨_, rfl⟩
      rw [hd0] at hwk hDk'
      clear hd0
      have hPd := hid (hP'.out.below (Below.refl _ _).drew)
      have hcd := hid (hPd.out.d.cell hDk'.out)
      go_wp2_with fail
      refine wp_region_held_drew (S := fun w' => w'.cell? ⟨gD, k, none⟩ = some (.int .i64 (d : Int))) (by kernel_rfl) (by exact hcd.out) (fun hHeld => ?_)
      refine tkx 0 (.slice (some ⟨g, 0, none⟩) T.size c) hHeld ?_; simp only [ly, Act.put]
      refine tkx 1 (.string H) hHeld ?_; simp only [ly, Act.put]
      refine tkx 2 (.int .i64 (k : Int)) hHeld ?_; simp only [ly, Act.put]
      refine tkx 3 (.slice (some ⟨gD, 0, none⟩) o.p cD) hHeld ?_; simp only [ly, Act.put]
      refine tkx 4 (.int .i64 (k : Int)) hHeld ?_; simp only [ly, Act.put]
      refine tkx 5 (.pointer (some ⟨gD, k, none⟩)) hHeld ?_; simp only [ly, Act.put]
      refine tkx 6 (.int .i64 (d : Int)) hHeld ?_ (hy := .inl ⟨by kernel_rfl, fun w hw => by have hw' : w.cell? ⟨gD, k, none⟩ = some (.int .i64 (d : Int)) := hw; go_simp⟩); simp only [ly, Act.put]
      refine tkx 7 (.int .i64 (o.w : Int)) hHeld ?_; simp only [ly, Act.put]
      refine tkx 8 (.int .i64 (IntKind.i64.wrap (2 ^ o.w))) hHeld ?_; simp only [ly, Act.put]
      refine tkx 9 (.int .i64 (o.top : Int)) hHeld ?_ (hy := .inl ⟨by kernel_rfl, fun w _ => by go_simp; exact htw.out⟩); simp only [ly, Act.put]
      refine tkx 10 (.string sign) hHeld ?_; simp only [ly, Act.put]
      refine tkx 11 (.int .i64 (k : Int)) hHeld ?_; simp only [ly, Act.put]
      refine tkx 12 (.int .i64 (32 * (k : Int))) hHeld ?_; simp only [ly, Act.put]
      refine tkx 13 (.int .i64 (36 + 32 * (k : Int))) hHeld ?_; simp only [ly, Act.put]
      refine tkx 14 (.int .i64 (k : Int)) hHeld ?_; simp only [ly, Act.put]
      refine tkx 15 (.int .i64 (32 * (k : Int))) hHeld ?_; simp only [ly, Act.put]
      refine tkx 16 (.int .i64 (68 + 32 * (k : Int))) hHeld ?_; simp only [ly, Act.put]
      refine tkx 17 (.string (txt pk)) hHeld ?_ (hy := .inl ⟨by kernel_rfl, fun w _ => by rw [← hcp'.out]; clear hcp; go_simp⟩); simp only [ly, Act.put]
      refine wpAnyH_ready (rs := [18]) (by kernel_rfl) (by simp) (AllReadyH.cons rfl (fun K hK => ?_) AllReadyH.nil)
      have hK' := hid hK
      clear hK
      rw [if_pos (by kernel_rfl)]
      simp only [ly1, ly2, ly3]
      go_simp
      refine (hwk.out _).mono ?_
      rintro e W9 ⟨rfl, hb9⟩
      have hP9 := hid (hPd.out.below hb9)
      clear hb9
      refine hK'.out _ _ (by exact hP9.out.d.cell hDk'.out) (fun hHeld => ?_)
      clear hK' K
      refine wpAnyH_ready (rs := [19]) (by kernel_rfl) (by simp) (AllReadyH.cons rfl (fun K hK => ?_) AllReadyH.nil)
      have hK' := hid hK
      clear hK
      rw [if_pos (by kernel_rfl)]
      simp only [ly1, ly2, ly3]
      refine wp_append_rowB (.tmp 66) (.tmp 84) 49 9 rfl 5 i0 Try.underlying49 Try.underlying9 hi hz0 hz1 hz2 T (txt fk) g c rfl rfl hP9.out.row (by have := hTs'.out; omega) _ rfl ?_
      intro g' c' W10 hR10 hg10 hf10
      have hP10 := hid (hP9.out.more hR10 hg10 hf10)
      clear hR10 hg10 hf10
      refine hK'.out _ _ (by exact hP10.out.d.cell hDk'.out) (fun hHeld => ?_)
      clear hK' K
      simp only [ly, Act.put]
      refine tkx 20 (.slice (some ⟨g', 0, none⟩) (T ++ txt fk).size c') hHeld ?_; simp only [ly, Act.put]
      refine wpAnyH_done (by kernel_rfl) ?_ _
      go_wp2_with fail
      go_roundw
      case rel => exact ⟨k + 1, T ++ txt fk, g', c', by omega, by go_num, rfl, hTn'.out, hP10.out⟩
      case measure => simp [intOf]; omega
    · obtain rfl : k = o.p := by omega
      have hcv2 := run_convert_rowB (P := Try.prog) 49 9 Try.underlying49 Try.underlying5 Try.underlying9 (n := T.size) rfl hP'.out.row
      have hsh := hid (fun W => rsha_any T W (by have := hTs'.out; omega))
      rw [hT'.out] at hsh
      have hno : ¬ ((o.p : Nat) : Int) < (o.p : Int) := by omega
      have hgl : (Sha.sha (hd2 ++ [0x80, 0x80] ++ fl o.p)).length = 32 := sha_len32 _
      unfold hashV at hsh
      obtain ⟨out, hout⟩ : ∃ out, Sha.sha (hd2 ++ [0x80, 0x80] ++ fl o.p) = out := ⟨_, rfl⟩
      rw [hout] at hsh hgl
      have hout' := hid hout
      clear hout
      have hsf := hv_size out hgl
      have h1f := all_oneCell_toArray (byteCells_one out)
      go_wp2_with fail
      refine (hsh.out _).mono ?_
      rintro e W5 ⟨rfl, hb5⟩
      have hP5 := hid (hP'.out.below hb5)
      have hth5 := hv_put out (by decide) hP5.out.r hgl
      have hr6 := hid hth5.2
      have hth6 := hth5.1
      have hb6 := hid (below_setCells hP5.out.b w.heap.size 0 (byteCells out) (Nat.le_refl _))
      clear hb5 hth5
      rename_i hK1
      refine hK1 _ _ ?_
      clear hK1
      refine wpList_store_mid rfl 44 (.tmp 8) (.tmp 88) rfl w.heap.size 0 (byteCells out).toArray rfl rfl (by exact hth6) (by exact hsf) (by exact h1f) ?_
      generalize hW6 : World.setCells _ _ _ _ = W6
      have e6 : W5.setCells w.heap.size 0 (byteCells out) = W6 := hW6
      rw [e6] at hr6 hb6
      clear hW6 e6 hth6
      go_wp2_with fail
      exact bodyPost_ret (results_ct rfl _ _ w.heap.size 44 _ (0, 0) _ rfl hr6.out (.int .i64 0) rfl Try.underlying44 rfl (by exact hsf)) rfl ⟨by rw [hout'.out]; rfl, hb6.out⟩

theorem rCandidate_any (q : Int) (id msg sign : ByteArray) (hms : msg.size ≤ 140737488351232) (hss : sign.size ≤ 140737488351232) (w : World) :
    Calls Try.prog 56 #[.string id, .int .i64 q, .string msg, .string sign] w fun e w' => e = .returned (.tuple #[(candAns q id msg sign).1, .int .i64 (candAns q id msg sign).2]) ∧ Below w.heap.size w w' := by
  unfold candAns
  cases h : candGood q id msg sign with
  | none => exact rCandidate_bad q id msg sign h hms hss w
  | some o => exact rCandidate_good q id msg sign o h w

end Go.Proofs.Ytmfajekfipfjpaa
