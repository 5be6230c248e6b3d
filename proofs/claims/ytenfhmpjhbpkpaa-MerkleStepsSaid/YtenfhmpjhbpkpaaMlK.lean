/- The statement MerkleSteps: its walk. -/
import Derived.Test.YtenfhmpjhbpkpaaMlI
namespace Go.Proofs.Ytenfhmpjhbpkpaa
open Go.RowKit
open Go.Lib (strCells strCells_length strCells_oneCell)
attribute [local irreducible] Sha.compress Sha.blocks Sha.sha Sha.pad

/-- Two trees of a statement's own. -/
structure TwoTr (w0 wr : World) (ga gb : Nat) (xs ys : List ByteArray) (ra rb : Option Nat) : Prop where
  ta : TrAt w0 wr ga xs ra
  tb : TrAt w0 wr gb ys rb
  ne : ga ≠ gb
  rab : ra ≠ some gb
  rba : rb ≠ some ga
  rr : rb = none ∨ rb ≠ ra

section
variable {w0 wr w' : World} {ga gb : Nat} {xs ys : List ByteArray} {ra rb : Option Nat}

theorem TwoTr.up (h : TwoTr w0 wr ga gb xs ys ra rb) (hb : Below wr.heap.size wr w') : TwoTr w0 w' ga gb xs ys ra rb := ⟨h.ta.up hb, h.tb.up hb, h.ne, h.rab, h.rba, h.rr⟩

theorem TwoTr.swap (h : TwoTr w0 wr ga gb xs ys ra rb) : TwoTr w0 wr gb ga ys xs rb ra := ⟨h.tb, h.ta, h.ne.symm, h.rba, h.rab, by
  rcases h.rr with e | e
  · cases ra with
    | none => exact .inl rfl
    | some k => exact .inr (by rw [e]; simp)
  · exact .inr e.symm⟩

theorem TwoTr.append (h : TwoTr w0 wr ga gb xs ys ra rb) (x : ByteArray) (hx : x.size ≤ 140737488351232) (hn : xs.length < 10000000000000) :
    Calls Try.prog 17 #[.pointer (some ⟨ga, 0, none⟩), .string x] wr fun e w' => e = .returned (.tuple #[]) ∧ ∃ ra', TwoTr w0 w' ga gb (xs ++ [x]) ys ra' rb := by
  refine (h.ta.append x hx hn).mono fun _ w' ⟨he, r', h1, h2, h3⟩ => ⟨he, r', h1, ⟨h.tb.t.other h2 h.ne.symm h.rab h.rba h.rr, h.tb.lg, h.tb.lr, h1.b⟩, h.ne, h3.ne h.rab h.tb.t.lt.1, h.rba, ?_⟩
  rcases h3 with e | ⟨k, e, hk⟩
  · rw [e]; exact h.rr
  · rw [e]
    cases hrb : rb with
    | none => exact .inl rfl
    | some j => exact .inr (fun e => by
        have := h.tb.t.lt.2 j hrb
        have := Option.some.inj e
        omega)

theorem TwoTr.appendB (h : TwoTr w0 wr ga gb xs ys ra rb) (x : ByteArray) (hx : x.size ≤ 140737488351232) (hn : ys.length < 10000000000000) :
    Calls Try.prog 17 #[.pointer (some ⟨gb, 0, none⟩), .string x] wr fun e w' => e = .returned (.tuple #[]) ∧ ∃ rb', TwoTr w0 w' ga gb xs (ys ++ [x]) ra rb' :=
  (h.swap.append x hx hn).mono fun _ _ ⟨he, r', h1⟩ => ⟨he, r', h1.swap⟩
end

set_option maxRecDepth 100000 in
set_option maxHeartbeats 6000000 in
theorem MerkleSteps_law {w : World} (A : Option Addr) (n c : Nat) (xs : List ByteArray) (hx : TextsIn w A n c xs) (other : ByteArray) (ho : other.size ≤ 140737488351232) :
    Calls Try.prog 5 #[.slice A n c, .string other] w fun e w' => e = .returned (.bool true) ∧ Below w.heap.size w w' := by
  obtain ⟨hX0, hnc, hn16, hnil, hs⟩ := hx
  have hlen := hX0.len
  have hX0' := hid hX0
  have hs' := hid hs
  clear hX0 hs hnil
  have hn13 : n ≤ 10000000000000 := by omega
  go_enter Try.func5, Try.ntmps5
  go_wp2_with fail
  refine (awake9_any _).mono ?_
  rintro e W1 ⟨rfl, hb1⟩
  have hb1' := hid hb1
  clear hb1
  go_wp2_with fail
  refine (TrAt.new (w0 := w) hb1'.out).mono ?_
  rintro e W2 ⟨rfl, hT2, hb2⟩
  have hT2' := hid hT2
  clear hT2 hb2
  go_wp2_with fail
  refine (TrAt.new (w0 := w) hT2'.out.b).mono ?_
  rintro e W3 ⟨rfl, hT3, hb3⟩
  have hD3 := hid (show TwoTr w W3 W1.heap.size W2.heap.size [] [] none none from ⟨hT2'.out.up hb3, hT3, by have := hT2'.out.t.lt.1; omega, (fun e => by cases e), (fun e => by cases e), .inl rfl⟩)
  clear hT3 hb3 hT2'
  generalize W1.heap.size = ga at *
  generalize W2.heap.size = gb at *
  go_wp2_with fail
  go_loopw [7] (fun i wr => ∃ (k : Nat) (ra rb : Option Nat), k ≤ n ∧ k ≤ 40 ∧ i = .int .i64 (k : Int) ∧ TwoTr w wr ga gb (xs.take k) (List.replicate k other) ra rb) (fun i _ => n - (intOf i).toNat)
  case atStart => exact ⟨0, none, none, Nat.zero_le _, by omega, rfl, hD3.out⟩
  case round =>
    obtain ⟨k, ra, rb, hk, hk40, rfl, hT⟩ := hrel
    have hT' := hid hT
    clear hT hD3
    by_cases hlt : k < n ∧ k < 40
    · obtain ⟨hlt, hlt40⟩ := hlt
      obtain ⟨p, rfl, hB, x, hxm, hx, hcell⟩ := hX0'.out.get hlt
      have hxs := hs'.out x hxm
      have l1 : (k : Int) < (n : Int) := by omega
      have l2 : (k : Int) < 40 := by omega
      have hk0 : (0 : Int) ≤ (k : Int) := by omega
      have hto : (k : Int).toNat = k := by omega
      have htk : xs.take (k + 1) = xs.take k ++ [x] := by rw [List.take_add_one, hx]; rfl
      have htr : List.replicate (k + 1) other = List.replicate k other ++ [other] := List.replicate_succ' ..
      have hl1 : ((xs.take (k + 1)).length : Int) = (k : Int) + 1 := by rw [List.length_take]; omega
      have hl2 : ((List.replicate (k + 1) other).length : Int) = (k : Int) + 1 := by rw [List.length_replicate]; omega
      have hcellW : wr.cell? (p.add k) = some (.string x) := (hT'.out.ta.b.cell (p := p.add k) (by rw [add_block]; exact hB)).trans hcell
      have hA1 := hid ((hT'.out.append x hxs (by rw [List.length_take]; omega)).mono (R' := fun e w' => e = .returned (.tuple #[]) ∧ ∃ ra', TwoTr w w' ga gb (xs.take (k + 1)) (List.replicate k other) ra' rb) fun _ _ ⟨he, r', h1⟩ => ⟨he, r', by rw [htk]; exact h1⟩)
      have hA2 := hid (fun W ra' (h : TwoTr w W ga gb (xs.take (k + 1)) (List.replicate k other) ra' rb) => (h.appendB other ho (by rw [List.length_replicate]; omega)).mono (R' := fun e w' => e = .returned (.tuple #[]) ∧ ∃ rb', TwoTr w w' ga gb (xs.take (k + 1)) (List.replicate (k + 1) other) ra' rb') fun _ _ ⟨he, r', h1⟩ => ⟨he, r', by rw [htr]; exact h1⟩)
      have hC := hid (hash_root (xs.take (k + 1)))
      have hR1 := hid (fun W ra' rb' (h : TwoTr w W ga gb (xs.take (k + 1)) (List.replicate (k + 1) other) ra' rb') => tRoot_any ga (xs.take (k + 1)) ra' W h.ta.t)
      have hR2 := hid (fun W ra' rb' (h : TwoTr w W ga gb (xs.take (k + 1)) (List.replicate (k + 1) other) ra' rb') => mRoot_any (some p) (k + 1) c (xs.take (k + 1)) W (((hX0'.out.below h.ta.b).more h.ta.b.size).take (by omega)) (by omega) (fun s hm => hs'.out s (List.mem_of_mem_take hm)))
      unfold hv at hR1 hR2
      obtain ⟨cs, hcs⟩ : ∃ cs, byteCells (rootH (xs.take (k + 1))) = cs := ⟨_, rfl⟩
      rw [hcs] at hC hR1 hR2
      have hkw := IntWalk.i64_in ((k : Int) + 1) (by omega)
      have hkc : (k : Int) + 1 ≤ (c : Int) := by omega
      have hk1 : (0 : Int) ≤ (k : Int) + 1 := by omega
      have hto1 : ((k : Int) + 1).toNat = k + 1 := by omega
      have hl1' := hid hl1
      have hl2' := hid hl2
      clear htk htr hcs hl1 hl2 hx hxm hcell
      go_wp2_with fail
      refine hA1.out.mono ?_
      rintro e W4 ⟨rfl, ra4, hT4⟩
      have hT4' := hid hT4
      clear hT4 hcellW hA1
      go_wp2_with fail
      refine (hA2.out _ _ hT4'.out).mono ?_
      rintro e W5 ⟨rfl, rb5, hT5⟩
      have hT5' := hid hT5
      have hTd := hid (hT5.up (Below.refl _ _).drew)
      clear hT5
      go_wp2_with fail
      refine wp_region_held_drew (S := fun _ => True) (by kernel_rfl) (by exact True.intro) (fun hHeld => ?_)
      refine wpAnyH_take (i := 0) (v := .pointer (some ⟨ga, 0, none⟩)) rfl (by kernel_rfl) (by kernel_rfl) (by kernel_rfl) (fun _ _ _ h => h) (yieldsIf_move _ rfl rfl rfl) hHeld ?_
      simp only [List.getElem_toArray, List.getElem_cons_succ, List.getElem_cons_zero, Act.put, List.setIfInBounds_toArray, List.set_cons_zero, List.set_cons_succ]
      refine wpAnyH_take (i := 2) (v := .slice (some p) n c) rfl (by kernel_rfl) (by kernel_rfl) (by kernel_rfl) (fun _ _ _ h => h) (yieldsIf_move _ rfl rfl rfl) hHeld ?_
      simp only [List.getElem_toArray, List.getElem_cons_succ, List.getElem_cons_zero, Act.put, List.setIfInBounds_toArray, List.set_cons_zero, List.set_cons_succ]
      refine wpAnyH_take (i := 3) (v := .int .i64 (k : Int)) rfl (by kernel_rfl) (by kernel_rfl) (by kernel_rfl) (fun _ _ _ h => h) (yieldsIf_move _ rfl rfl rfl) hHeld ?_
      simp only [List.getElem_toArray, List.getElem_cons_succ, List.getElem_cons_zero, Act.put, List.setIfInBounds_toArray, List.set_cons_zero, List.set_cons_succ]
      refine wpAnyH_take (i := 4) (v := .int .i64 ((k : Int) + 1)) rfl (by kernel_rfl) (by kernel_rfl) (by kernel_rfl) (fun _ _ _ h => h) (.inl ⟨by kernel_rfl, fun w _ => by go_simp⟩) hHeld ?_
      simp only [List.getElem_toArray, List.getElem_cons_succ, List.getElem_cons_zero, Act.put, List.setIfInBounds_toArray, List.set_cons_zero, List.set_cons_succ]
      refine wpAnyH_take (i := 5) (v := .slice (some p) (k + 1) c) rfl (by kernel_rfl) (by kernel_rfl) (by kernel_rfl) (fun _ _ _ h => h) (.inl ⟨by kernel_rfl, fun w _ => by go_simp⟩) hHeld ?_
      simp only [List.getElem_toArray, List.getElem_cons_succ, List.getElem_cons_zero, Act.put, List.setIfInBounds_toArray, List.set_cons_zero, List.set_cons_succ]
      refine wpAnyH_ready (rs := [1]) (by kernel_rfl) (by simp) (AllReadyH.cons rfl (fun K hK => ?_) AllReadyH.nil)
      have hK' := hid hK
      clear hK
      rw [if_pos (by kernel_rfl)]
      simp only [List.getElem_toArray, List.getElem_cons_succ, List.getElem_cons_zero]
      go_simp
      refine (hR1.out _ _ _ hTd.out).mono ?_
      rintro e W6 ⟨rfl, hb6⟩
      have hT6 := hid (hTd.out.up hb6)
      clear hb6
      refine hK'.out _ _ (by exact True.intro) (fun hHeld => ?_)
      clear hK' K
      refine wpAnyH_ready (rs := [6]) (by kernel_rfl) (by simp) (AllReadyH.cons rfl (fun K hK => ?_) AllReadyH.nil)
      have hK' := hid hK
      clear hK
      rw [if_pos (by kernel_rfl)]
      simp only [List.getElem_toArray, List.getElem_cons_succ, List.getElem_cons_zero]
      go_simp
      refine (hR2.out _ _ _ hT6.out).mono ?_
      rintro e W7 ⟨rfl, hb7⟩
      have hT7 := hid (hT6.out.up hb7)
      clear hb7
      refine hK'.out _ _ (by exact True.intro) (fun hHeld => ?_)
      clear hK' K
      refine wpAnyH_take (i := 7) (v := .bool false) rfl (by kernel_rfl) (by kernel_rfl) (by kernel_rfl) (fun _ _ _ h => h) (yieldsIf_neq hC.out (by kernel_rfl) _ _ _ rfl rfl rfl) hHeld ?_
      simp only [List.getElem_toArray, List.getElem_cons_succ, List.getElem_cons_zero, Act.put, List.setIfInBounds_toArray, List.set_cons_zero, List.set_cons_succ]
      refine wpAnyH_take (i := 8) (v := .bool false) rfl (by kernel_rfl) (by kernel_rfl) (by kernel_rfl) (fun _ _ _ h => h) (yieldsIf_move _ rfl rfl rfl) hHeld ?_
      simp only [List.getElem_toArray, List.getElem_cons_succ, List.getElem_cons_zero, Act.put, List.setIfInBounds_toArray, List.set_cons_zero, List.set_cons_succ]
      refine wpAnyH_take (i := 9) (v := .pointer (some ⟨ga, 0, none⟩)) rfl (by kernel_rfl) (by kernel_rfl) (by kernel_rfl) (fun _ _ _ h => h) (.inl ⟨by kernel_rfl, fun w _ => by go_simp⟩) hHeld ?_
      simp only [List.getElem_toArray, List.getElem_cons_succ, List.getElem_cons_zero, Act.put, List.setIfInBounds_toArray, List.set_cons_zero, List.set_cons_succ]
      refine wpAnyH_take (i := 11) (v := .int .i64 (k : Int)) rfl (by kernel_rfl) (by kernel_rfl) (by kernel_rfl) (fun _ _ _ h => h) (.inl ⟨by kernel_rfl, fun w _ => by go_simp⟩) hHeld ?_
      simp only [List.getElem_toArray, List.getElem_cons_succ, List.getElem_cons_zero, Act.put, List.setIfInBounds_toArray, List.set_cons_zero, List.set_cons_succ]
      refine wpAnyH_take (i := 12) (v := .int .i64 ((k : Int) + 1)) rfl (by kernel_rfl) (by kernel_rfl) (by kernel_rfl) (fun _ _ _ h => h) (.inl ⟨by kernel_rfl, fun w _ => by go_simp⟩) hHeld ?_
      simp only [List.getElem_toArray, List.getElem_cons_succ, List.getElem_cons_zero, Act.put, List.setIfInBounds_toArray, List.set_cons_zero, List.set_cons_succ]
      refine wpAnyH_ready (rs := [10]) (by kernel_rfl) (by simp) (AllReadyH.cons rfl (fun K hK => ?_) AllReadyH.nil)
      have hK' := hid hK
      clear hK
      rw [if_pos (by kernel_rfl)]
      simp only [List.getElem_toArray, List.getElem_cons_succ, List.getElem_cons_zero]
      go_simp
      refine (mSize_any _ _ _ _ hT7.out.ta.t).mono ?_
      rintro e w' ⟨rfl, rfl⟩
      rw [hl1'.out]
      refine hK'.out _ _ (by exact True.intro) (fun hHeld => ?_)
      clear hK' K
      refine wpAnyH_take (i := 13) (v := .bool false) rfl (by kernel_rfl) (by kernel_rfl) (by kernel_rfl) (fun _ _ _ h => h) (.inl ⟨by kernel_rfl, fun w _ => by go_simp⟩) hHeld ?_
      simp only [List.getElem_toArray, List.getElem_cons_succ, List.getElem_cons_zero, Act.put, List.setIfInBounds_toArray, List.set_cons_zero, List.set_cons_succ]
      refine wpAnyH_take (i := 14) (v := .bool false) rfl (by kernel_rfl) (by kernel_rfl) (by kernel_rfl) (fun _ _ _ h => h) (yieldsIf_pick _ _ _ rfl rfl rfl rfl) hHeld ?_
      simp only [List.getElem_toArray, List.getElem_cons_succ, List.getElem_cons_zero, Act.put, List.setIfInBounds_toArray, List.set_cons_zero, List.set_cons_succ]
      refine wpAnyH_take (i := 15) (v := .bool false) rfl (by kernel_rfl) (by kernel_rfl) (by kernel_rfl) (fun _ _ _ h => h) (yieldsIf_move _ rfl rfl rfl) hHeld ?_
      simp only [List.getElem_toArray, List.getElem_cons_succ, List.getElem_cons_zero, Act.put, List.setIfInBounds_toArray, List.set_cons_zero, List.set_cons_succ]
      refine wpAnyH_take (i := 16) (v := .pointer (some ⟨gb, 0, none⟩)) rfl (by kernel_rfl) (by kernel_rfl) (by kernel_rfl) (fun _ _ _ h => h) (.inl ⟨by kernel_rfl, fun w _ => by go_simp⟩) hHeld ?_
      simp only [List.getElem_toArray, List.getElem_cons_succ, List.getElem_cons_zero, Act.put, List.setIfInBounds_toArray, List.set_cons_zero, List.set_cons_succ]
      refine wpAnyH_take (i := 18) (v := .int .i64 (k : Int)) rfl (by kernel_rfl) (by kernel_rfl) (by kernel_rfl) (fun _ _ _ h => h) (.inl ⟨by kernel_rfl, fun w _ => by go_simp⟩) hHeld ?_
      simp only [List.getElem_toArray, List.getElem_cons_succ, List.getElem_cons_zero, Act.put, List.setIfInBounds_toArray, List.set_cons_zero, List.set_cons_succ]
      refine wpAnyH_take (i := 19) (v := .int .i64 ((k : Int) + 1)) rfl (by kernel_rfl) (by kernel_rfl) (by kernel_rfl) (fun _ _ _ h => h) (.inl ⟨by kernel_rfl, fun w _ => by go_simp⟩) hHeld ?_
      simp only [List.getElem_toArray, List.getElem_cons_succ, List.getElem_cons_zero, Act.put, List.setIfInBounds_toArray, List.set_cons_zero, List.set_cons_succ]
      refine wpAnyH_ready (rs := [17]) (by kernel_rfl) (by simp) (AllReadyH.cons rfl (fun K hK => ?_) AllReadyH.nil)
      have hK' := hid hK
      clear hK
      rw [if_pos (by kernel_rfl)]
      simp only [List.getElem_toArray, List.getElem_cons_succ, List.getElem_cons_zero]
      go_simp
      refine (mSize_any _ _ _ _ hT7.out.tb.t).mono ?_
      rintro e w' ⟨rfl, rfl⟩
      rw [hl2'.out]
      refine hK'.out _ _ (by exact True.intro) (fun hHeld => ?_)
      clear hK' K
      refine wpAnyH_take (i := 20) (v := .bool false) rfl (by kernel_rfl) (by kernel_rfl) (by kernel_rfl) (fun _ _ _ h => h) (.inl ⟨by kernel_rfl, fun w _ => by go_simp⟩) hHeld ?_
      simp only [List.getElem_toArray, List.getElem_cons_succ, List.getElem_cons_zero, Act.put, List.setIfInBounds_toArray, List.set_cons_zero, List.set_cons_succ]
      refine wpAnyH_take (i := 21) (v := .bool false) rfl (by kernel_rfl) (by kernel_rfl) (by kernel_rfl) (fun _ _ _ h => h) (yieldsIf_pick _ _ _ rfl rfl rfl rfl) hHeld ?_
      simp only [List.getElem_toArray, List.getElem_cons_succ, List.getElem_cons_zero, Act.put, List.setIfInBounds_toArray, List.set_cons_zero, List.set_cons_succ]
      refine wpAnyH_done (by kernel_rfl) ?_ _
      go_wp2_with fail
      go_roundw
      case rel => exact ⟨k + 1, _, _, by omega, by omega, by go_num, hT7.out⟩
      case measure => simp [intOf]; omega
    · have hl1 : ((xs.take k).length : Int) = (k : Int) := by rw [List.length_take]; omega
      have hB := hid hT'.out.ta.b
      have hSz := mSize_any _ _ _ _ hT'.out.ta.t
      rw [hl1] at hSz
      have hSz' := hid hSz
      clear hSz hl1 hT' hX0' hs'
      by_cases hkn : k < n
      · have l1 : (k : Int) < (n : Int) := by omega
        have l2 : ¬ (k : Int) < 40 := by omega
        have hmin : min (n : Int) 40 = (k : Int) := by omega
        go_wp2_with fail
        refine hSz'.out.mono ?_
        rintro e w' ⟨rfl, rfl⟩
        go_wp2_with (go_at_call 25; refine (errNum_any _ _).mono ?_; rintro e w' ⟨rfl, rfl⟩)
        go_ret
        exact ⟨rfl, hB.out⟩
      · obtain rfl : k = n := by omega
        have l1 : ¬ (k : Int) < (k : Int) := by omega
        have hmin : min (k : Int) 40 = (k : Int) := by omega
        go_wp2_with fail
        refine hSz'.out.mono ?_
        rintro e w' ⟨rfl, rfl⟩
        go_wp2_with (go_at_call 25; refine (errNum_any _ _).mono ?_; rintro e w' ⟨rfl, rfl⟩)
        go_ret
        exact ⟨rfl, hB.out⟩

end Go.Proofs.Ytenfhmpjhbpkpaa
