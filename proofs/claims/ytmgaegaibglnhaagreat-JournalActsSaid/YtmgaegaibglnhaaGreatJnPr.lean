/- Layer 8, the program's side: read, guess.
   Layer 8, the program's side: the record that may stand at a sector.
   What follows a region, told once for all its orders. (XHsC and XPfW hold copies of their own: never together.)
   Layer 8, the program's side: Seal.
   Layer 8, the program's side: a journal's cells; pass.
   A range over an iterator that keeps cells of its own, with a body that never leaves and keeps a growing row of its own (block o). No function of the program is named here.
   Layer 8, the program's side: the records that stand on a disk, an iterator.
   A slice of one element built inside a fence. (XLmNo holds copies of its own: never together.) No function of the program is named here.
   Layer 8, the program's side: Open.
   Layer 8, the program's side: Append, Sync, Used. -/
import Derived.Test.YtmgaegaibglnhaaGreatJnPl
import Derived.Test.YtmgaegaibglnhaaGreatJnL
import Derived.Test.YtmgaegaibglnhaaGreatNumOf
import Derived.Test.YtmgaegaibglnhaaGreatDkM
import Derived.IntWalk
import Derived.Test.YtmgaegaibglnhaaGreatWords
import Derived.Test.YtmgaegaibglnhaaGreatNumU
import Derived.Test.YtmgaegaibglnhaaGreatTagX
import Derived.Test.YtmgaegaibglnhaaGreatFar
import Derived.Test.YtmgaegaibglnhaaGreatKeepX
import Derived.RangeFuncNested
import Derived.Test.YtmgaegaibglnhaaGreatInOps
import Derived.Test.YtmgaegaibglnhaaGreatTools
import Derived.Test.YtmgaegaibglnhaaGreatBytes
import Derived.Test.YtmgaegaibglnhaaGreatRoundR
import Derived.Deep.RegionHeld3
import Derived.Test.YtmgaegaibglnhaaGreatTurnS
namespace Go.Proofs.YtmgaegaibglnhaaGreat
open Go.RowKit
open Go.Lib (strCells strCells_length strCells_oneCell)
attribute [local irreducible] Sha.compress Sha.blocks Sha.sha Sha.pad

set_option maxRecDepth 100000 in
theorem wholes_any (n : Nat) (hn : n ≤ 1000000000) (w : World) : Calls Tryz.prog 103 #[.int .i64 (n : Int)] w fun e w' => e = .returned (.int .i64 (wholes n : Int)) ∧ w = w' := by
  have e1 : (n : Int) + 64 - 1 = ((n + 63 : Nat) : Int) := by omega
  have e2 : ((n + 63 : Nat) : Int) / 64 = (wholes n : Int) := by unfold wholes; omega
  have h := hid (show Value.int .i64 (((n : Int) + 64 - 1) / 64) = .int .i64 (wholes n : Int) from by rw [e1, e2])
  clear e1 e2
  go_enter Tryz.func103, Tryz.ntmps103
  go_wp2
  go_ret
  exact ⟨congrArg Ending.returned h.out, rfl⟩

theorem byteCells_app (l : List UInt8) (s : ByteArray) : Lib.byteCells l ++ strCells s = Lib.byteCells (l ++ s.data.toList) := (List.map_append ..).symm
theorem readS_next {xs : List ByteArray} {a i : Nat} {x : ByteArray} (h : xs[a + i]? = some x) : joinS ((xs.drop a).take (i + 1)) = joinS ((xs.drop a).take i) ++ x.data.toList :=
  joinS_next (by rw [List.getElem?_drop]; exact h)

set_option maxRecDepth 100000 in
set_option maxHeartbeats 4000000 in
theorem read_any (at_ k : Nat) (d r b n : Nat) (D : Dk) (w : World) (hD : DiskAt w d r b n D) (hk : k ≤ 10000) (hat : at_ ≤ 10000) :
    Calls Tryz.prog 96 #[.pointer (some ⟨d, 0, none⟩), .int .i64 (at_ : Int), .int .i64 (k : Int)] w fun e w' => e = .returned (.string (readS D.xs at_ k)) ∧ Below w.heap.size w w' := by
  obtain ⟨W0, hW0⟩ : ∃ W0, w.alloc (.cells #[.pointer none, .slice none 0 0] 214) = W0 := ⟨_, rfl⟩
  have hI0 := hid (show Lib.IsBuilder 214 5 w.heap.size w.heap.size (Lib.byteCells (joinS ((D.xs.drop at_).take 0))) W0 from by rw [← hW0]; exact Lib.fresh_isBuilder _ _ w)
  have hB0 := hid (show Below w.heap.size w W0 from by rw [← hW0]; exact (Below.refl _ _).alloc (Nat.le_refl _) _)
  have hW0' := hid hW0
  have hDw := hid hD
  obtain ⟨g, hg⟩ : ∃ g, w.heap.size = g := ⟨_, rfl⟩
  have hg' := hid hg
  rw [hg] at hI0
  have hlen := hid hD.fine.len
  clear hW0 hg hD
  go_enter Tryz.func96, Tryz.ntmps96
  go_wp2_with (first
    | ((with_reducible refine at_slot (some 7) ?_); refine wpList_run rfl (.pointer (some ⟨g, 0, none⟩)) (w.alloc (.cells #[.pointer none, .slice none 0 0] 214)) (by rw [← hg'.out]; kernel_rfl) ?_; rw [hW0'.out])
    | fail)
  go_loopw [12] (fun ix wr => ∃ i : Nat, i ≤ k ∧ (at_ + i ≤ n ∨ i = 0) ∧ ix = .int .i64 (i : Int) ∧ Lib.IsBuilder 214 5 g g (Lib.byteCells (joinS ((D.xs.drop at_).take i))) wr ∧ Below w.heap.size w wr) (fun ix _ => k - (intOf ix).toNat)
  case atStart => exact ⟨0, by omega, .inr rfl, rfl, hI0.out, hB0.out⟩
  case round =>
    obtain ⟨i, hi, hin, rfl, hIr, hBr⟩ := hrel
    obtain ⟨W1, rfl⟩ : ∃ V, V = wr := ⟨_, rfl⟩
    have hI1 := hid hIr
    have hB1 := hid hBr
    clear hIr hBr
    by_cases hlt : i < k
    · have hlt' : (i : Int) < (k : Int) := by omega
      have hsum : IntKind.i64.wrap ((at_ : Int) + (i : Int)) = ((at_ + i : Nat) : Int) := by rw [IntWalk.i64_in _ (by omega)]; omega
      have hD1 := hid (hDw.out.on hB1.out)
      by_cases hn : at_ + i < n
      · have hrd := dkRead_yes (at_ + i) d r b n D hn W1 hD1.out
        obtain ⟨x, hx⟩ : ∃ x, D.xs[at_ + i]? = some x := ⟨_, List.getElem?_eq_getElem (by rw [hlen.out]; exact hn)⟩
        have hx64 : x.size = 64 := hDw.out.fine.secs x (List.mem_of_getElem? hx)
        rw [List.getD_eq_getElem?_getD, hx] at hrd
        have hrd' := hid hrd
        have hnx := hid (readS_next hx)
        have hn' := hid hn
        have hxs := hid hx64
        have hl := hid (show (Lib.byteCells (joinS ((D.xs.drop at_).take i))).length + x.size ≤ 140737488355328 from by
          have h1 := joinB_size (xs := (D.xs.drop at_).take i) (fun s hs => hDw.out.fine.secs s (List.mem_of_mem_drop (List.mem_of_mem_take hs)))
          rw [← data_length, joinB_list] at h1
          rw [Lib.byteCells_length, h1, List.length_take, hx64]
          omega)
        clear hx hx64 hrd hn
        go_wp2_with (first
          | (go_at_call 26; refine hrd'.out.mono ?_; rintro e w' ⟨rfl, rfl⟩)
          | (go_at_call 154; refine (Tryz.Builder_WriteString g g _ x _ hI1.out hl.out (by rw [← hg'.out]; exact hB1.out.size)).mono ?_; rintro e W2 ⟨rfl, hA, hb⟩; have hA2 := hid hA; have hb2 := hid hb; clear hA hb)
          | fail)
        go_roundw
        case rel => exact ⟨i + 1, by omega, .inl (by have := hn'.out; omega), by go_num, .inr (by rw [hnx.out]; exact byteCells_app _ _ ▸ hA2.out), hB1.out.trans (by rw [hg'.out]; exact hb2.out)⟩
        case measure => simp [intOf]; omega
      · have hrd := hid (dkRead_no ((at_ + i : Nat) : Int) d r b n D (by omega) W1 hD1.out)
        have hfin := hid (show (⟨#[]⟩ : ByteArray) = readS D.xs at_ k from by
          unfold readS
          rw [if_neg (by rw [hlen.out]; omega)])
        go_wp2_with (first
          | (go_at_call 26; refine hrd.out.mono ?_; rintro e w' ⟨rfl, rfl⟩)
          | fail)
        go_ret
        exact ⟨congrArg (fun s => Ending.returned (.string s)) hfin.out, hB1.out⟩
    · obtain rfl : i = k := by omega
      have hfin := hid (show (⟨(joinS ((D.xs.drop at_).take i)).toArray⟩ : ByteArray) = readS D.xs at_ i from by
        unfold readS
        split
        · rfl
        · rename_i hno
          rw [hlen.out] at hno
          obtain rfl : i = 0 := by omega
          rfl)
      go_wp2_with (first
        | (go_at_call 156; refine (Tryz.Builder_String_any g g _ _ hI1.out (by rw [← hg'.out]; exact hB1.out.size)).mono ?_; rintro e W2 ⟨rfl, hb⟩; have hb2 := hid hb; clear hb)
        | fail)
      go_ret
      exact ⟨congrArg (fun s => Ending.returned (.string s)) hfin.out, hB1.out.trans (by rw [hg'.out]; exact hb2.out)⟩

end Go.Proofs.YtmgaegaibglnhaaGreat
namespace Go.Proofs.YtmgaegaibglnhaaGreat
open Go.RowKit
open Go.Lib (strCells strCells_length strCells_oneCell)
attribute [local irreducible] Sha.compress Sha.blocks Sha.sha Sha.pad

/-- A record's cells. -/
def recV (r : Rec) : List Value := [.int .i64 r.kind, .string r.data]
def rec0 : Rec := ⟨0, ⟨#[]⟩⟩
theorem recSize (r : Rec) : (Tryz.prog.info? 37).map (·.size) = some (recV r).toArray.size := by kernel_rfl
theorem recSizeL (r : Rec) : (Tryz.prog.info? 37).map (·.size) = some (recV r).length := by kernel_rfl
theorem recOne (r : Rec) : (recV r).toArray.all (·.oneCell') = true := by simp [recV, Value.oneCell']
theorem rec_put {w W w0 : World} {g : Nat} {r r2 : Rec} (h : Holds w g 37 (recV r)) (hb : Below w0.heap.size w0 w) (hg : w0.heap.size ≤ g) (e : w.setCells g 0 (recV r2) = W) : Holds W g 37 (recV r2) ∧ Below w0.heap.size w0 W := by
  have h1 := h.put 0 (recV r2) (Nat.le_refl _)
  rw [put_all (recV r) (recV r2) rfl, e] at h1
  exact ⟨h1, below_store hb hg e⟩

set_option maxRecDepth 100000 in
set_option maxHeartbeats 4000000 in
theorem guess_any (at_ : Nat) (d r b n : Nat) (D : Dk) (w : World) (hD : DiskAt w d r b n D) (hat : at_ ≤ 10000) :
    Calls Tryz.prog 150 #[.pointer (some ⟨d, 0, none⟩), .int .i64 (at_ : Int)] w fun e w' => e = .returned (.agg (recV (guessS D.xs at_)).toArray) ∧ Below w.heap.size w w' := by
  have hsec := hD.fine.secs
  obtain ⟨s1, hs1⟩ : ∃ s, readS D.xs at_ 1 = s := ⟨_, rfl⟩
  have hz1 : s1.size = 64 ∨ s1.size = 0 := by
    rw [← hs1, readS_size hsec]
    split
    · exact .inl rfl
    · exact .inr rfl
  have hs1' := hid hs1
  obtain ⟨m, hm⟩ : ∃ m, num (s1.extract 7 9) = m := ⟨_, rfl⟩
  have hm9 : m ≤ 65535 := by
    rw [← hm]
    have h := numL_lt (s1.extract 7 9).data.toList
    have h2 : (s1.extract 7 9).data.toList.length ≤ 2 := by rw [data_length, ByteArray.size_extract]; omega
    have := Nat.pow_le_pow_right (n := 256) (by omega) h2
    unfold num
    omega
  have hm' := hid hm
  obtain ⟨k6, hk6⟩ : ∃ k, num (s1.extract 6 7) = k := ⟨_, rfl⟩
  have hk6 := hid (show numL (s1.extract 6 7).data.toList = k6 from hk6)
  have hmL := hid (show numL (s1.extract 7 9).data.toList = m from hm)
  obtain ⟨s2, hs2⟩ : ∃ s, readS D.xs at_ (wholes (9 + m + 32)) = s := ⟨_, rfl⟩
  have hs2' := hid hs2
  have hw2 : wholes (9 + m + 32) ≤ 10000 := by unfold wholes; omega
  have hG : guessS D.xs at_ = if s1.size < 9 then rec0 else if s2.size < 9 + m then rec0 else ⟨(k6 : Int), s2.extract 9 (9 + m)⟩ := by
    unfold guessS rec0
    rw [hs1, hm, hs2, ← hk6.out]
    rfl
  have h2s : s2.size ≤ 640000 := by
    rw [← hs2, readS_size hsec]
    split <;> omega
  obtain ⟨R, hR⟩ : ∃ R, guessS D.xs at_ = R := ⟨_, rfl⟩
  rw [hR] at hG ⊢
  obtain ⟨g, hg⟩ : ∃ g, w.heap.size = g := ⟨_, rfl⟩
  have hg' : Hid (w.heap.size ≤ g) := hid (by omega)
  obtain ⟨W0, hW0⟩ : ∃ V, w.alloc (.cells (recV rec0).toArray 37) = V := ⟨_, rfl⟩
  have hH0 := hid (show Holds W0 g 37 (recV rec0) from by rw [← hW0, ← hg]; exact Holds.new w 37 (recV rec0).toArray)
  have hB0 := hid (show Below w.heap.size w W0 from by rw [← hW0]; exact (Below.refl _ _).alloc (Nat.le_refl _) _)
  have hA0 := hid (hD.on hB0.out)
  have hW0' := hid hW0
  have hgw := hid hg
  have hw1 : IntKind.i64.wrap (9 + (m : Int)) = ((9 + m : Nat) : Int) := by rw [IntWalk.i64_in _ (by omega)]; omega
  have hw3 : IntKind.i64.wrap (((9 + m : Nat) : Int) + 32) = ((9 + m + 32 : Nat) : Int) := by rw [IntWalk.i64_in _ (by omega)]; omega
  have q1 : (0 : Int) ≤ 9 + (m : Int) := by omega
  have q2 : (9 : Int) ≤ 9 + (m : Int) := by omega
  have q3 : (9 + (m : Int)).toNat = 9 + m := by omega
  clear hs1 hm hs2 hD hsec hW0 hg hR
  by_cases h9 : s1.size < 9
  · have h9' : (s1.size : Int) < 9 := by omega
    rw [if_pos h9] at hG
    subst hG
    go_enter Tryz.func150, Tryz.ntmps150
    go_wp2_with (first
      | ((with_reducible refine at_slot (some 4) ?_); refine wpList_run rfl (.pointer (some ⟨g, 0, none⟩)) (w.alloc (.cells (recV rec0).toArray 37)) (by rw [← hgw.out]; kernel_rfl) ?_; rw [hW0'.out])
      | fail)
    go_at_call 96
    refine (read_any at_ 1 d r b n D _ hA0.out (by omega) hat).mono ?_
    rintro e W1 ⟨rfl, hb⟩
    have hH1 := hid (hH0.out.below hb hH0.out.lt)
    have hB1 := hid (bup hb hB0.out)
    have hA1 := hid (hA0.out.on hb)
    clear hb hH0 hB0 hA0
    rw [hs1'.out]
    go_wp2_with (first
      | ((with_reducible refine at_slot none ?_); refine wpList_store_mid rfl 37 (.tmp 4) (.tmp 14) rfl g 0 (recV rec0).toArray rfl rfl (by exact hH1.out.there 0 _ (Nat.le_refl _)) (by exact recSize rec0) (by exact recOne rec0) ?_; generalize hW : World.setCells _ _ _ _ = W2; have hh := rec_put hH1.out hB1.out hg'.out hW; have hH2 := hid hh.1; have hB2 := hid hh.2; clear hh hW hH1 hB1)
      | fail)
    go_wp2_with fail
    exact bodyPost_ret (results_cell_row rfl _ _ g 37 _ (0, 0) _ rfl hH2.out Tryz.underlying37 rfl (by exact recSize _)) rfl ⟨rfl, hB2.out⟩
  · have h9' : ¬ (s1.size : Int) < 9 := by omega
    rw [if_neg h9] at hG
    have hz : s1.size = 64 := by omega
    have hzi : (s1.size : Int) = 64 := by omega
    by_cases h10 : s2.size < 9 + m
    · have h10' : (s2.size : Int) < ((9 + m : Nat) : Int) := by omega
      rw [if_pos h10] at hG
      subst hG
      go_enter Tryz.func150, Tryz.ntmps150
      go_wp2_with (first
        | ((with_reducible refine at_slot (some 4) ?_); refine wpList_run rfl (.pointer (some ⟨g, 0, none⟩)) (w.alloc (.cells (recV rec0).toArray 37)) (by rw [← hgw.out]; kernel_rfl) ?_; rw [hW0'.out])
        | fail)
      go_at_call 96
      refine (read_any at_ 1 d r b n D _ hA0.out (by omega) hat).mono ?_
      rintro e W1 ⟨rfl, hb⟩
      have hH1 := hid (hH0.out.below hb hH0.out.lt)
      have hB1 := hid (bup hb hB0.out)
      have hA1 := hid (hA0.out.on hb)
      clear hb hH0 hB0 hA0
      rw [hs1'.out]
      go_wp2_with (first
        | (go_at_call 175; refine (Of_any (s1.extract 7 9) _ (by rw [ByteArray.size_extract]; omega)).mono ?_; rintro e w' ⟨rfl, rfl⟩; rw [hmL.out])
        | (go_at_call 103; refine (wholes_any (9 + m + 32) (by omega) _).mono ?_; rintro e w' ⟨rfl, rfl⟩)
        | fail)
      go_at_call 96
      refine (read_any at_ (wholes (9 + m + 32)) d r b n D _ hA1.out hw2 hat).mono ?_
      rintro e W2 ⟨rfl, hb⟩
      have hH2 := hid (hH1.out.below hb hH1.out.lt)
      have hB2 := hid (bup hb hB1.out)
      have hA2 := hid (hA1.out.on hb)
      clear hb hH1 hB1 hA1
      rw [hs2'.out]
      go_wp2_with (first
        | ((with_reducible refine at_slot none ?_); refine wpList_store_mid rfl 37 (.tmp 4) (.tmp 30) rfl g 0 (recV rec0).toArray rfl rfl (by exact hH2.out.there 0 _ (Nat.le_refl _)) (by exact recSize rec0) (by exact recOne rec0) ?_; generalize hW : World.setCells _ _ _ _ = W3; have hh := rec_put hH2.out hB2.out hg'.out hW; have hH3 := hid hh.1; have hB3 := hid hh.2; clear hh hW hH2 hB2)
        | fail)
      go_wp2_with fail
      exact bodyPost_ret (results_cell_row rfl _ _ g 37 _ (0, 0) _ rfl hH3.out Tryz.underlying37 rfl (by exact recSize _)) rfl ⟨rfl, hB3.out⟩
    · have h10' : ¬ (s2.size : Int) < ((9 + m : Nat) : Int) := by omega
      rw [if_neg h10] at hG
      go_enter Tryz.func150, Tryz.ntmps150
      go_wp2_with (first
        | ((with_reducible refine at_slot (some 4) ?_); refine wpList_run rfl (.pointer (some ⟨g, 0, none⟩)) (w.alloc (.cells (recV rec0).toArray 37)) (by rw [← hgw.out]; kernel_rfl) ?_; rw [hW0'.out])
        | fail)
      go_at_call 96
      refine (read_any at_ 1 d r b n D _ hA0.out (by omega) hat).mono ?_
      rintro e W1 ⟨rfl, hb⟩
      have hH1 := hid (hH0.out.below hb hH0.out.lt)
      have hB1 := hid (bup hb hB0.out)
      have hA1 := hid (hA0.out.on hb)
      clear hb hH0 hB0 hA0
      rw [hs1'.out]
      go_wp2_with (first
        | (go_at_call 175; refine (Of_any (s1.extract 7 9) _ (by rw [ByteArray.size_extract]; omega)).mono ?_; rintro e w' ⟨rfl, rfl⟩; rw [hmL.out])
        | (go_at_call 103; refine (wholes_any (9 + m + 32) (by omega) _).mono ?_; rintro e w' ⟨rfl, rfl⟩)
        | fail)
      go_at_call 96
      refine (read_any at_ (wholes (9 + m + 32)) d r b n D _ hA1.out hw2 hat).mono ?_
      rintro e W2 ⟨rfl, hb⟩
      have hH2 := hid (hH1.out.below hb hH1.out.lt)
      have hB2 := hid (bup hb hB1.out)
      have hA2 := hid (hA1.out.on hb)
      clear hb hH1 hB1 hA1
      rw [hs2'.out]
      go_wp2_with fail
      have hb : Below W2.heap.size W2 W2.drew := (Below.refl _ _).drew
      have hH3 := hid (hH2.out.below hb hH2.out.lt)
      have hB3 := hid (bup hb hB2.out)
      have hA3 := hid (hA2.out.on hb)
      clear hb hH2 hB2 hA2
      refine wp_region_held_drew (S := fun _ => True) (by kernel_rfl) (by exact trivial) (fun hHeld => ?_)
      generalize W2.drew = W3 at *
      refine tkn 0 (.string s1) rfl (by kernel_rfl) (fun _ _ _ h => h) (yieldsIf_move _ rfl rfl rfl) hHeld ?_
      simp only [ly, Act.put]
      refine tkn 1 (.string (s1.extract 6 7)) rfl (by kernel_rfl) (fun _ _ _ h => h) (.inl ⟨by kernel_rfl, fun w _ => by go_simp⟩) hHeld ?_
      simp only [ly, Act.put]
      refine tkn 3 (.string s2) rfl (by kernel_rfl) (fun _ _ _ h => h) (yieldsIf_move _ rfl rfl rfl) hHeld ?_
      simp only [ly, Act.put]
      refine tkn 4 (.int .i64 (m : Int)) rfl (by kernel_rfl) (fun _ _ _ h => h) (yieldsIf_move _ rfl rfl rfl) hHeld ?_
      simp only [ly, Act.put]
      refine tkn 5 (.int .i64 ((9 + m : Nat) : Int)) rfl (by kernel_rfl) (fun _ _ _ h => h) (.inl ⟨by kernel_rfl, fun w _ => by go_simp⟩) hHeld ?_
      simp only [ly, Act.put]
      refine tkn 6 (.string (s2.extract 9 (9 + m))) rfl (by kernel_rfl) (fun _ _ _ h => h) (.inl ⟨by kernel_rfl, fun w _ => by go_simp⟩) hHeld ?_
      simp only [ly, Act.put]
      refine wpAnyH_ready (rs := [2]) (by kernel_rfl) (by simp) (AllReadyH.cons rfl (fun K hK => ?_) AllReadyH.nil)
      have hK' := hid hK
      clear hK
      rw [if_pos (by kernel_rfl)]
      simp only [ly1, ly2, ly3]
      go_simp
      refine (Of_any (s1.extract 6 7) W3 (by rw [ByteArray.size_extract]; omega)).mono ?_
      rintro e w' ⟨rfl, rfl⟩
      rw [hk6.out]
      refine hK'.out _ _ (by exact trivial) (fun hHeld => ?_)
      clear hK' K
      refine tkn 7 (.agg #[.int .i64 (k6 : Int), .string (s2.extract 9 (9 + m))]) rfl (by kernel_rfl) (fun _ _ _ h => h) (.inl ⟨by kernel_rfl, fun w _ => by go_simp⟩) hHeld ?_
      simp only [ly, Act.put]
      refine wpAnyH_ready (rs := [8]) (by kernel_rfl) (by simp) (AllReadyH.cons rfl (fun K hK => ?_) AllReadyH.nil)
      have hK' := hid hK
      clear hK
      rw [if_pos (by kernel_rfl)]
      simp only [ly1, ly2, ly3]
      refine wp_store_mid _ _ _ rfl g 0 (recV ⟨(k6 : Int), s2.extract 9 (9 + m)⟩).toArray rfl rfl (by exact hH3.out.there 0 _ (Nat.le_refl _)) (by exact recSize _) (by exact recOne _) ?_
      generalize hW : World.setCells _ _ _ _ = W4
      have hh := rec_put hH3.out hB3.out hg'.out hW
      have hH4 := hid hh.1
      have hB4 := hid hh.2
      clear hh hW hH3 hB3 hA3
      refine hK'.out _ _ (by exact trivial) (fun hHeld => ?_)
      clear hK' K
      refine wpAnyH_done (by kernel_rfl) ?_ _
      subst hG
      go_wp2_with fail
      exact bodyPost_ret (results_cell_row rfl _ _ g 37 _ (0, 0) _ rfl hH4.out Tryz.underlying37 rfl (by exact recSize _)) rfl ⟨rfl, hB4.out⟩


end Go.Proofs.YtmgaegaibglnhaaGreat
namespace Go.Proofs.YtmgaegaibglnhaaGreat

def MidQ (R : Act → World → Prop) : Exit → Act → World → Prop
  | .normal, a, w => R a w
  | _, _, _ => False
theorem wp_region_mid {P : Program} {id : Nat} {ops : Array Oper} {b : Bool} {Q : Exit → Act → World → Prop} {a : Act} {w : World} (R : Act → Act → World → Prop)
    (h1 : (Code.region id ops b).wp P (MidQ (R a)) a w) (h2 : ∀ a' w', R a a' w' → Q .normal a' w') : (Code.region id ops b).wp P Q a w :=
  Code.wp_mono (fun e a' w' h => by cases e <;> first | exact h2 _ _ h | cases h) h1
def puts (a : Act) : List (Nat × Value) → Act
  | [] => a
  | (i, v) :: l => puts (a.put (some i) v) l

end Go.Proofs.YtmgaegaibglnhaaGreat
namespace Go.Proofs.YtmgaegaibglnhaaGreat
open Go.RowKit
open Go.Lib (strCells strCells_length strCells_oneCell)
attribute [local irreducible] Sha.compress Sha.blocks Sha.sha Sha.pad

theorem tag4_any {A : Option Addr} {m : Nat} {a b c d : ByteArray} {w : World} (hX : Texts w w.heap.size A 4 [a, b, c, d]) (hs : a.size + (b.size + (c.size + d.size)) ≤ 60000) :
    Calls Tryz.prog 99 #[.int .i64 4, .slice A 4 m] w fun e w' => e = .returned (.tuple #[.agg (byteCells (Sha.sha (tagL 4 [a, b, c, d]))).toArray, .int .i64 0]) ∧ Below w.heap.size w w' := by
  have hz : ∀ s ∈ [a, b, c, d], s.size ≤ 140737488351232 := fun s h => by
    simp only [List.mem_cons, List.not_mem_nil, or_false] at h
    rcases h with rfl | rfl | rfl | rfl <;> omega
  have hm : tagMay 4 [a, b, c, d] = true := by
    unfold tagMay
    refine decide_eq_true ⟨by omega, by omega, ?_⟩
    simp only [totS]
    omega
  refine (tagSum_any 4 A 4 m _ _ hX (by decide) hz).mono ?_
  rintro e w' ⟨rfl, hb⟩
  refine ⟨?_, hb⟩
  unfold tagAns
  rw [if_pos hm]
  rfl
theorem repeat0 (p : Nat) : (⟨(Lib.repeatL (⟨#[0]⟩ : ByteArray).data.toList p).toArray⟩ : ByteArray) = zeroS p := by
  have e : Lib.repeatL [(0 : UInt8)] p = List.replicate p 0 := by
    induction p with
    | zero => rfl
    | succ p ih => rw [Lib.repeatL, ih]; rfl
  show (⟨(Lib.repeatL [(0 : UInt8)] p).toArray⟩ : ByteArray) = zeroS p
  rw [e]
  unfold zeroS
  first | rfl | simp
theorem sealMay_nat {s k : Nat} {d : ByteArray} : sealMay (s : Int) ⟨(k : Int), d⟩ = true ↔ s ≤ 4294967295 ∧ k ≤ 255 ∧ d.size ≤ 1024 := by
  rw [sealMay_iff]
  show 0 ≤ (s : Int) ∧ (s : Int) ≤ 4294967295 ∧ 0 ≤ (k : Int) ∧ (k : Int) ≤ 255 ∧ d.size ≤ 1024 ↔ _
  omega

set_option maxRecDepth 100000 in
set_option maxHeartbeats 2000000 in
theorem seal_bad (prev : List UInt8) (seq : Int) (r : Rec) (h : sealMay seq r = false) (w : World) :
    Calls Tryz.prog 47 #[.agg (byteCells prev).toArray, .int .i64 seq, .agg (recV r).toArray] w fun e w' => e = .returned (.tuple #[.string ⟨#[]⟩, .int .i64 800]) ∧ Below w.heap.size w w' := by
  obtain ⟨k, data⟩ := r
  have hno : ¬ (0 ≤ seq ∧ seq ≤ 4294967295 ∧ 0 ≤ k ∧ k ≤ 255 ∧ data.size ≤ 1024) := fun hh => by rw [sealMay_iff.2 hh] at h; cases h
  clear h
  show Calls Tryz.prog 47 #[.agg (byteCells prev).toArray, .int .i64 seq, .agg #[.int .i64 k, .string data]] w _
  generalize byteCells prev = cp
  obtain ⟨g, hg⟩ : ∃ g, w.heap.size = g := ⟨_, rfl⟩
  obtain ⟨W0, hW0⟩ : ∃ V, (w.alloc (.cells cp.toArray 55)).alloc (.cells #[.int .i64 k, .string data] 37) = V := ⟨_, rfl⟩
  have hsz : (w.alloc (.cells cp.toArray 55)).heap.size = g + 1 := by rw [← hg]; simp
  have hP0 := hid (show Holds W0 g 55 cp from by rw [← hW0, ← hg]; exact (Holds.new w 55 cp.toArray).alloc _)
  have hQ0 := hid (show Holds W0 (g + 1) 37 [.int .i64 k, .string data] from by rw [← hW0, ← hsz]; exact Holds.new _ 37 #[.int .i64 k, .string data])
  have hB0 := hid (show Below w.heap.size w W0 from by rw [← hW0]; exact ((Below.refl _ _).alloc (Nat.le_refl _) _).alloc (by simp) _)
  have hW0' := hid hW0
  have hsz' := hid hsz
  have hgw := hid hg
  have c0 := hQ0.out.cK 0 _ rfl
  have c1 := hQ0.out.cK 1 _ rfl
  clear hW0 hg hsz
  by_cases h0 : seq < 0
  · skip
    go_enter Tryz.func47, Tryz.ntmps47
    go_wp2_with (first
      | ((with_reducible refine at_slot (some 3) ?_); refine wpList_run rfl (.pointer (some ⟨g, 0, none⟩)) (w.alloc (.cells cp.toArray 55)) (by rw [← hgw.out]; kernel_rfl) ?_)
      | ((with_reducible refine at_slot (some 5) ?_); refine wpList_run rfl (.pointer (some ⟨g + 1, 0, none⟩)) ((w.alloc (.cells cp.toArray 55)).alloc (.cells #[.int .i64 k, .string data] 37)) (by rw [← hsz'.out]; kernel_rfl) ?_; rw [hW0'.out])
      | fail)
    go_ret2
    exact ⟨rfl, hB0.out⟩
  · skip
    by_cases h1 : 4294967295 < seq
    · skip
      go_enter Tryz.func47, Tryz.ntmps47
      go_wp2_with (first
        | ((with_reducible refine at_slot (some 3) ?_); refine wpList_run rfl (.pointer (some ⟨g, 0, none⟩)) (w.alloc (.cells cp.toArray 55)) (by rw [← hgw.out]; kernel_rfl) ?_)
        | ((with_reducible refine at_slot (some 5) ?_); refine wpList_run rfl (.pointer (some ⟨g + 1, 0, none⟩)) ((w.alloc (.cells cp.toArray 55)).alloc (.cells #[.int .i64 k, .string data] 37)) (by rw [← hsz'.out]; kernel_rfl) ?_; rw [hW0'.out])
        | fail)
      go_ret2
      exact ⟨rfl, hB0.out⟩
    · skip
      by_cases h2 : k < 0
      · skip
        go_enter Tryz.func47, Tryz.ntmps47
        go_wp2_with (first
          | ((with_reducible refine at_slot (some 3) ?_); refine wpList_run rfl (.pointer (some ⟨g, 0, none⟩)) (w.alloc (.cells cp.toArray 55)) (by rw [← hgw.out]; kernel_rfl) ?_)
          | ((with_reducible refine at_slot (some 5) ?_); refine wpList_run rfl (.pointer (some ⟨g + 1, 0, none⟩)) ((w.alloc (.cells cp.toArray 55)).alloc (.cells #[.int .i64 k, .string data] 37)) (by rw [← hsz'.out]; kernel_rfl) ?_; rw [hW0'.out])
          | fail)
        go_ret2
        exact ⟨rfl, hB0.out⟩
      · skip
        by_cases h3 : 255 < k
        · skip
          go_enter Tryz.func47, Tryz.ntmps47
          go_wp2_with (first
            | ((with_reducible refine at_slot (some 3) ?_); refine wpList_run rfl (.pointer (some ⟨g, 0, none⟩)) (w.alloc (.cells cp.toArray 55)) (by rw [← hgw.out]; kernel_rfl) ?_)
            | ((with_reducible refine at_slot (some 5) ?_); refine wpList_run rfl (.pointer (some ⟨g + 1, 0, none⟩)) ((w.alloc (.cells cp.toArray 55)).alloc (.cells #[.int .i64 k, .string data] 37)) (by rw [← hsz'.out]; kernel_rfl) ?_; rw [hW0'.out])
            | fail)
          go_ret2
          exact ⟨rfl, hB0.out⟩
        · skip
          have h4 : 1024 < (data.size : Int) := by omega
          go_enter Tryz.func47, Tryz.ntmps47
          go_wp2_with (first
            | ((with_reducible refine at_slot (some 3) ?_); refine wpList_run rfl (.pointer (some ⟨g, 0, none⟩)) (w.alloc (.cells cp.toArray 55)) (by rw [← hgw.out]; kernel_rfl) ?_)
            | ((with_reducible refine at_slot (some 5) ?_); refine wpList_run rfl (.pointer (some ⟨g + 1, 0, none⟩)) ((w.alloc (.cells cp.toArray 55)).alloc (.cells #[.int .i64 k, .string data] 37)) (by rw [← hsz'.out]; kernel_rfl) ?_; rw [hW0'.out])
            | fail)
          go_ret2
          exact ⟨rfl, hB0.out⟩

set_option maxRecDepth 100000 in
set_option maxHeartbeats 6000000 in
theorem seal_good (prev : List UInt8) (hp : prev.length = 32) (s kd : Nat) (data : ByteArray) (hs : s ≤ 4294967295) (hk : kd ≤ 255) (hd : data.size ≤ 1024) (w : World) :
    Calls Tryz.prog 47 #[.agg (byteCells prev).toArray, .int .i64 (s : Int), .agg (recV ⟨(kd : Int), data⟩).toArray] w fun e w' => e = .returned (.tuple #[.string (recBytes prev s kd data), .int .i64 0]) ∧ Below w.heap.size w w' := by
  have hC := hid (hash_cells (recHash prev s kd data) (recHash_len _ _ _ _))
  have hTg := hid (fun (W : World) (A : Option Addr) (m : Nat) (h : Texts W W.heap.size A 4 [txt prev, be 4 s, be 1 kd, data]) => show Calls Tryz.prog 99 #[.int .i64 4, .slice A 4 m] W fun e w' => e = .returned (.tuple #[.agg (byteCells (recHash prev s kd data)).toArray, .int .i64 0]) ∧ Below W.heap.size W w' from tag4_any h (by rw [txt_size, be_size, be_size, hp]; omega))
  have hu4 := hid (fun W => U32_any s W)
  have hu1 := hid (fun W => show Calls Tryz.prog 101 #[.int .i64 (kd : Int)] W fun e w' => e = .returned (.string (be 1 kd)) ∧ Below W.heap.size W w' from U8_any kd W)
  have hu2 := hid (fun W => U16_any data.size W)
  have hvp := hid (fun W g h => hv_text prev hp W g h)
  have hvs := hid (fun W g h => hv_text (recHash prev s kd data) (recHash_len _ _ _ _) W g h)
  obtain ⟨X, hX⟩ : ∃ X, recRaw prev s kd data = X := ⟨_, rfl⟩
  have hXs : X.size = 41 + data.size := by rw [← hX, recRaw_size]
  have hwh := hid (fun W => wholes_any X.size (by omega) W)
  obtain ⟨Z, hZ⟩ : ∃ Z, wholes X.size = Z := ⟨_, rfl⟩
  have hz1 := wholes_ge X.size
  have hz2 := wholes_lt X.size
  rw [hZ] at hwh hz1 hz2
  obtain ⟨M, hM⟩ : ∃ M, Z * 64 = M := ⟨_, rfl⟩
  rw [hM] at hz1 hz2
  obtain ⟨p, hpp⟩ : ∃ p, M - X.size = p := ⟨_, rfl⟩
  have m1 : IntKind.i64.wrap ((Z : Int) * 64) = (M : Int) := by rw [IntWalk.i64_in _ (by omega)]; omega
  have m2 : IntKind.i64.wrap ((M : Int) - (X.size : Int)) = (p : Int) := by rw [IntWalk.i64_in _ (by omega)]; omega
  have hRp := hid (fun W => show Calls Tryz.prog 95 #[.string ⟨#[0]⟩, .int .i64 (p : Int)] W fun e w' => e = .returned (.string (zeroS p)) ∧ Below W.heap.size W w' from by
    have h := Tryz.strings_Repeat ⟨#[0]⟩ p W (by omega) (by show 1 * p ≤ _; omega)
    rw [repeat0] at h
    exact h)
  have hfin := hid (show X ++ zeroS p = recBytes prev s kd data from by
    unfold recBytes
    rw [hX, ← hpp, ← hM, ← hZ, hXs])
  have hps : (zeroS p).size = p := zeroS_size p
  have zc : X.size + (zeroS p).size ≤ 9223372036854775807 := by omega
  obtain ⟨zp, hzp⟩ : ∃ z, zeroS p = z := ⟨_, rfl⟩
  rw [hzp] at hRp hfin zc
  have hY := hid (show (⟨#[65, 74]⟩ : ByteArray) ++ be 4 s ++ be 1 kd ++ be 2 data.size ++ data ++ txt (recHash prev s kd data) = X from hX)
  have b4 := be_size 4 s
  have b1 := be_size 1 kd
  have b2 := be_size 2 data.size
  have bs : (txt (recHash prev s kd data)).size = 32 := by rw [txt_size, recHash_len]
  have tps : (txt prev).size = 32 := by rw [txt_size, hp]
  show Calls Tryz.prog 47 #[.agg (byteCells prev).toArray, .int .i64 (s : Int), .agg #[.int .i64 (kd : Int), .string data]] w _
  obtain ⟨k, hkk⟩ : ∃ k : Int, (kd : Int) = k := ⟨_, rfl⟩
  generalize recHash prev s kd data = rh at *
  generalize byteCells rh = cs at *
  generalize txt rh = ts at *
  generalize be 4 s = t4 at *
  generalize be 1 kd = t1 at *
  generalize be 2 data.size = t2 at *
  generalize byteCells prev = cp at *
  generalize txt prev = tp at *
  have hn1 : (0 : Int) ≤ (s : Int) := by omega
  have hn2 : (s : Int) ≤ 4294967295 := by omega
  have hn3 : (0 : Int) ≤ k := by omega
  have hn4 : k ≤ 255 := by omega
  have hn5 : (data.size : Int) ≤ 1024 := by omega
  rw [hkk] at hu1 ⊢
  have y1 : 2 + t4.size ≤ 9223372036854775807 := by omega
  have y2 : 2 + t4.size + t1.size ≤ 9223372036854775807 := by omega
  have y3 : 2 + t4.size + t1.size + t2.size ≤ 9223372036854775807 := by omega
  have y4 : 2 + t4.size + t1.size + t2.size + data.size ≤ 9223372036854775807 := by omega
  have y5 : 2 + t4.size + t1.size + t2.size + data.size + ts.size ≤ 9223372036854775807 := by omega
  clear hp hs hk hd hX hXs hZ hz1 hz2 hM hpp hps hzp b4 b1 b2 bs tps hkk
  obtain ⟨g, hg⟩ : ∃ g, w.heap.size = g := ⟨_, rfl⟩
  obtain ⟨W0, hW0⟩ : ∃ V, (w.alloc (.cells cp.toArray 55)).alloc (.cells #[.int .i64 k, .string data] 37) = V := ⟨_, rfl⟩
  have hsz : (w.alloc (.cells cp.toArray 55)).heap.size = g + 1 := by rw [← hg]; simp
  have hP0 := hid (show Holds W0 g 55 cp from by rw [← hW0, ← hg]; exact (Holds.new w 55 cp.toArray).alloc _)
  have hQ0 := hid (show Holds W0 (g + 1) 37 [.int .i64 k, .string data] from by rw [← hW0, ← hsz]; exact Holds.new _ 37 #[.int .i64 k, .string data])
  have hB0 := hid (show Below w.heap.size w W0 from by rw [← hW0]; exact ((Below.refl _ _).alloc (Nat.le_refl _) _).alloc (by simp) _)
  have hW0' := hid hW0
  have hsz' := hid hsz
  have hgw := hid hg
  have c0 := hQ0.out.cK 0 _ rfl
  have c1 := hQ0.out.cK 1 _ rfl
  clear hW0 hg hsz
  go_enter Tryz.func47, Tryz.ntmps47
  go_wp2_with (first
    | ((with_reducible refine at_slot (some 3) ?_); refine wpList_run rfl (.pointer (some ⟨g, 0, none⟩)) (w.alloc (.cells cp.toArray 55)) (by rw [← hgw.out]; kernel_rfl) ?_)
    | ((with_reducible refine at_slot (some 5) ?_); refine wpList_run rfl (.pointer (some ⟨g + 1, 0, none⟩)) ((w.alloc (.cells cp.toArray 55)).alloc (.cells #[.int .i64 k, .string data] 37)) (by rw [← hsz'.out]; kernel_rfl) ?_; rw [hW0'.out])
    | fail)
  clear c0 c1
  refine wp_region_mid (fun a a' W' => ∃ gh gt : Nat, a' = puts a [(34, .slice (some ⟨g, 0, none⟩) 32 32), (35, .string tp), (36, .int .i64 (s : Int)), (37, .string t4), (38, .pointer (some ⟨g + 1, 0, none⟩)), (39, .int .i64 k), (40, .string t1), (41, .pointer (some ⟨g + 1, 1, none⟩)), (42, .string data), (43, .slice (some ⟨gt, 0, none⟩) 4 4), (44, .tuple #[.agg cs.toArray, .int .i64 0]), (33, .tuple #[.agg cs.toArray, .int .i64 0]), (45, .agg cs.toArray), (46, .int .i64 0), (8, .pointer (some ⟨gh, 0, none⟩)), (9, .int .i64 0)] ∧ Holds W' (g + 1) 37 [.int .i64 k, .string data] ∧ Holds W' gh 55 cs ∧ Below w.heap.size w W') ?_ ?_
  · skip
    have hb : Below W0.heap.size W0 W0.drew := (Below.refl _ _).drew
    have hP1 := hid (hP0.out.below hb hP0.out.lt)
    have hQ1 := hid (hQ0.out.below hb hQ0.out.lt)
    have hB1 := hid (bup hb hB0.out)
    clear hb hP0 hQ0 hB0
    refine wp_region_held_drew (S := fun V => Holds V g 55 cp ∧ Holds V (g + 1) 37 [.int .i64 k, .string data]) (by kernel_rfl) (by exact ⟨hP1.out, hQ1.out⟩) (fun hHeld => ?_)
    generalize W0.drew = W1 at *
    refine tkn 0 (.slice (some ⟨g, 0, none⟩) 32 32) rfl (by kernel_rfl) (fun _ _ _ h => h) (.inl ⟨by kernel_rfl, fun w _ => by go_simp⟩) hHeld ?_
    simp only [ly, Act.put]
    refine tkn 1 (.string tp) rfl (by kernel_rfl) (fun _ _ _ h => h) (.inl ⟨by kernel_rfl, fun V hS => by have hc := hvp.out V _ hS.1; go_simp⟩) hHeld ?_
    simp only [ly, Act.put]
    refine tkn 2 (.int .i64 (s : Int)) rfl (by kernel_rfl) (fun _ _ _ h => h) (yieldsIf_move _ rfl rfl rfl) hHeld ?_
    simp only [ly, Act.put]
    refine tkn 4 (.pointer (some ⟨g + 1, 0, none⟩)) rfl (by kernel_rfl) (fun _ _ _ h => h) (.inl ⟨by kernel_rfl, fun w _ => by go_simp⟩) hHeld ?_
    simp only [ly, Act.put]
    refine tkn 5 (.int .i64 k) rfl (by kernel_rfl) (fun _ _ _ h => h) (.inl ⟨by kernel_rfl, fun V hS => by have c0 := hS.2.cK 0 _ rfl; go_simp⟩) hHeld ?_
    simp only [ly, Act.put]
    refine tkn 7 (.pointer (some ⟨g + 1, 1, none⟩)) rfl (by kernel_rfl) (fun _ _ _ h => h) (.inl ⟨by kernel_rfl, fun w _ => by go_simp⟩) hHeld ?_
    simp only [ly, Act.put]
    refine tkn 8 (.string data) rfl (by kernel_rfl) (fun _ _ _ h => h) (.inl ⟨by kernel_rfl, fun V hS => by have c1 := hS.2.cK 1 _ rfl; go_simp⟩) hHeld ?_
    simp only [ly, Act.put]
    refine wpAnyH_ready (rs := [3, 14]) (by kernel_rfl) (by simp) (AllReadyH.cons rfl (fun K hK => ?_) (AllReadyH.cons rfl (fun K hK => ?_) AllReadyH.nil))
    · skip
      have hK' := hid hK
      clear hK
      rw [if_pos (by kernel_rfl)]
      simp only [ly1, ly2, ly3]
      go_simp
      refine (hu4.out _).mono ?_
      rintro e W2 ⟨rfl, hb⟩
      have hP2 := hid (hP1.out.below hb hP1.out.lt)
      have hQ2 := hid (hQ1.out.below hb hQ1.out.lt)
      have hB2 := hid (bup hb hB1.out)
      clear hb hP1 hQ1 hB1
      refine hK'.out _ _ (by exact ⟨hP2.out, hQ2.out⟩) (fun hHeld => ?_)
      clear hK' K
      refine wpAnyH_ready (rs := [6, 14]) (by kernel_rfl) (by simp) (AllReadyH.cons rfl (fun K hK => ?_) (AllReadyH.cons rfl (fun K hK => ?_) AllReadyH.nil))
      · skip
        have hK' := hid hK
        clear hK
        rw [if_pos (by kernel_rfl)]
        simp only [ly1, ly2, ly3]
        go_simp
        refine (hu1.out _).mono ?_
        rintro e W3 ⟨rfl, hb⟩
        have hP3 := hid (hP2.out.below hb hP2.out.lt)
        have hQ3 := hid (hQ2.out.below hb hQ2.out.lt)
        have hB3 := hid (bup hb hB2.out)
        clear hb hP2 hQ2 hB2
        refine hK'.out _ _ (by exact ⟨hP3.out, hQ3.out⟩) (fun hHeld => ?_)
        clear hK' K
        refine wpAnyH_ready (rs := [9, 14]) (by kernel_rfl) (by simp) (AllReadyH.cons rfl (fun K hK => ?_) (AllReadyH.cons rfl (fun K hK => ?_) AllReadyH.nil))
        · skip
          have hK' := hid hK
          clear hK
          rw [if_pos (by kernel_rfl)]
          simp only [ly1, ly2, ly3]
          obtain ⟨gt, hgt⟩ : ∃ g, W3.heap.size = g := ⟨_, rfl⟩
          refine wp_run' (.slice (some ⟨gt, 0, none⟩) 4 4) (W3.alloc (.cells #[.string tp, .string t4, .string t1, .string data] 9)) (by rw [← hgt]; kernel_rfl) ?_
          have hb := (Below.refl W3.heap.size W3).alloc (Nat.le_refl _) (.cells #[.string tp, .string t4, .string t1, .string data] 9)
          have hN := Texts.new W3 [tp, t4, t1, data] #[.string tp, .string t4, .string t1, .string data] rfl 4 rfl 9
          rw [hgt] at hN
          generalize W3.alloc (.cells #[.string tp, .string t4, .string t1, .string data] 9) = W4 at *
          have hP4 := hid (hP3.out.below hb hP3.out.lt)
          have hQ4 := hid (hQ3.out.below hb hQ3.out.lt)
          have hB4 := hid (bup hb hB3.out)
          have hT4 := hid hN
          clear hb hP3 hQ3 hB3 hN hgt
          refine hK'.out _ _ (by exact ⟨hP4.out, hQ4.out⟩) (fun hHeld => ?_)
          clear hK' K
          refine wpAnyH_ready (rs := [10, 14]) (by kernel_rfl) (by simp) (AllReadyH.cons rfl (fun K hK => ?_) (AllReadyH.cons rfl (fun K hK => ?_) AllReadyH.nil))
          · skip
            have hK' := hid hK
            clear hK
            rw [if_pos (by kernel_rfl)]
            simp only [ly1, ly2, ly3]
            go_simp
            refine (hTg.out _ _ _ hT4.out).mono ?_
            rintro e W5 ⟨rfl, hb⟩
            have hP5 := hid (hP4.out.below hb hP4.out.lt)
            have hQ5 := hid (hQ4.out.below hb hQ4.out.lt)
            have hB5 := hid (bup hb hB4.out)
            clear hb hP4 hQ4 hB4 hT4
            refine hK'.out _ _ (by exact ⟨hP5.out, hQ5.out⟩) (fun hHeld => ?_)
            clear hK' K
            refine tkn 11 (.tuple #[.agg cs.toArray, .int .i64 0]) rfl (by kernel_rfl) (fun _ _ _ h => h) (yieldsIf_move _ rfl rfl rfl) hHeld ?_
            simp only [ly, Act.put]
            refine tkn 12 (.agg cs.toArray) rfl (by kernel_rfl) (fun _ _ _ h => h) (.inl ⟨by kernel_rfl, fun w _ => by go_simp⟩) hHeld ?_
            simp only [ly, Act.put]
            refine tkn 13 (.int .i64 0) rfl (by kernel_rfl) (fun _ _ _ h => h) (.inl ⟨by kernel_rfl, fun w _ => by go_simp⟩) hHeld ?_
            simp only [ly, Act.put]
            refine wpAnyH_ready (rs := [14]) (by kernel_rfl) (by simp) (AllReadyH.cons rfl (fun K hK => ?_) AllReadyH.nil)
            have hK' := hid hK
            clear hK
            rw [if_pos (by kernel_rfl)]
            simp only [ly1, ly2, ly3]
            obtain ⟨gh, hgh⟩ : ∃ g, W5.heap.size = g := ⟨_, rfl⟩
            refine wp_run' (.pointer (some ⟨gh, 0, none⟩)) (W5.alloc (.cells z32 55)) (by rw [← hgh]; kernel_rfl) ?_
            have hb := (Below.refl W5.heap.size W5).alloc (Nat.le_refl _) (.cells z32 55)
            have hN : Holds (W5.alloc (.cells z32 55)) gh 55 z32.toList := by rw [← hgh]; exact Holds.new _ _ _
            have hghx := hid (show g + 1 < gh from by rw [← hgh]; exact hQ5.out.lt)
            generalize W5.alloc (.cells z32 55) = W6 at *
            have hP6 := hid (hP5.out.below hb hP5.out.lt)
            have hQ6 := hid (hQ5.out.below hb hQ5.out.lt)
            have hB6 := hid (bup hb hB5.out)
            have hR6 := hid hN
            clear hb hP5 hQ5 hB5 hN hgh
            refine hK'.out _ _ (by exact ⟨hP6.out, hQ6.out⟩) (fun hHeld => ?_)
            clear hK' K
            refine wpAnyH_ready (rs := [15]) (by kernel_rfl) (by simp) (AllReadyH.cons rfl (fun K hK => ?_) AllReadyH.nil)
            have hK' := hid hK
            clear hK
            rw [if_pos (by kernel_rfl)]
            simp only [ly1, ly2, ly3]
            refine wp_store_mid _ _ _ rfl gh 0 cs.toArray rfl rfl (by exact hC.out.there' hR6.out rfl) (by exact hC.out.size) (by exact hC.out.one) ?_
            generalize hXx : World.setCells _ _ _ _ = W7
            have hR7 := hid (Holds.over (cs := cs) hR6.out (by rw [hC.out.len]; rfl) hXx)
            have hQ7 := hid (holds_far hQ6.out (by have := hghx.out; omega) hXx)
            have hP7 := hid (holds_far hP6.out (by have := hghx.out; omega) hXx)
            have hB7 := hid (below_put hB6.out (by have := hghx.out; have := hgw.out; omega) hXx)
            clear hXx hR6 hQ6 hB6 hP6
            refine hK'.out _ _ (by exact ⟨hP7.out, hQ7.out⟩) (fun hHeld => ?_)
            clear hK' K
            refine tkn 16 (.int .i64 0) rfl (by kernel_rfl) (fun _ _ _ h => h) (yieldsIf_assign _ rfl rfl rfl) hHeld ?_
            simp only [ly, Act.put]
            refine wpAnyH_done (by kernel_rfl) ?_ _
            exact ⟨gh, gt, by simp only [puts, ly, Act.put], hQ7.out, hR7.out, hB7.out⟩
          · skip
            have hK' := hid hK
            clear hK
            rw [if_pos (by kernel_rfl)]
            simp only [ly1, ly2, ly3]
            obtain ⟨gh, hgh⟩ : ∃ g, W4.heap.size = g := ⟨_, rfl⟩
            refine wp_run' (.pointer (some ⟨gh, 0, none⟩)) (W4.alloc (.cells z32 55)) (by rw [← hgh]; kernel_rfl) ?_
            have hb := (Below.refl W4.heap.size W4).alloc (Nat.le_refl _) (.cells z32 55)
            have hN : Holds (W4.alloc (.cells z32 55)) gh 55 z32.toList := by rw [← hgh]; exact Holds.new _ _ _
            have hghx := hid (show g + 1 < gh from by rw [← hgh]; exact hQ4.out.lt)
            generalize W4.alloc (.cells z32 55) = W5 at *
            have hP5 := hid (hP4.out.below hb hP4.out.lt)
            have hQ5 := hid (hQ4.out.below hb hQ4.out.lt)
            have hB5 := hid (bup hb hB4.out)
            have hT5 := hid ((hT4.out.below hb).more hb.size)
            have hR5 := hid hN
            clear hb hP4 hQ4 hB4 hT4 hN hgh
            refine hK'.out _ _ (by exact ⟨hP5.out, hQ5.out⟩) (fun hHeld => ?_)
            clear hK' K
            refine wpAnyH_ready (rs := [10]) (by kernel_rfl) (by simp) (AllReadyH.cons rfl (fun K hK => ?_) AllReadyH.nil)
            have hK' := hid hK
            clear hK
            rw [if_pos (by kernel_rfl)]
            simp only [ly1, ly2, ly3]
            go_simp
            refine (hTg.out _ _ _ hT5.out).mono ?_
            rintro e W6 ⟨rfl, hb⟩
            have hP6 := hid (hP5.out.below hb hP5.out.lt)
            have hQ6 := hid (hQ5.out.below hb hQ5.out.lt)
            have hB6 := hid (bup hb hB5.out)
            have hR6 := hid (hR5.out.below hb hR5.out.lt)
            clear hb hP5 hQ5 hB5 hT5 hR5
            refine hK'.out _ _ (by exact ⟨hP6.out, hQ6.out⟩) (fun hHeld => ?_)
            clear hK' K
            refine tkn 11 (.tuple #[.agg cs.toArray, .int .i64 0]) rfl (by kernel_rfl) (fun _ _ _ h => h) (yieldsIf_move _ rfl rfl rfl) hHeld ?_
            simp only [ly, Act.put]
            refine tkn 12 (.agg cs.toArray) rfl (by kernel_rfl) (fun _ _ _ h => h) (.inl ⟨by kernel_rfl, fun w _ => by go_simp⟩) hHeld ?_
            simp only [ly, Act.put]
            refine tkn 13 (.int .i64 0) rfl (by kernel_rfl) (fun _ _ _ h => h) (.inl ⟨by kernel_rfl, fun w _ => by go_simp⟩) hHeld ?_
            simp only [ly, Act.put]
            refine wpAnyH_ready (rs := [15]) (by kernel_rfl) (by simp) (AllReadyH.cons rfl (fun K hK => ?_) AllReadyH.nil)
            have hK' := hid hK
            clear hK
            rw [if_pos (by kernel_rfl)]
            simp only [ly1, ly2, ly3]
            refine wp_store_mid _ _ _ rfl gh 0 cs.toArray rfl rfl (by exact hC.out.there' hR6.out rfl) (by exact hC.out.size) (by exact hC.out.one) ?_
            generalize hXx : World.setCells _ _ _ _ = W7
            have hR7 := hid (Holds.over (cs := cs) hR6.out (by rw [hC.out.len]; rfl) hXx)
            have hQ7 := hid (holds_far hQ6.out (by have := hghx.out; omega) hXx)
            have hP7 := hid (holds_far hP6.out (by have := hghx.out; omega) hXx)
            have hB7 := hid (below_put hB6.out (by have := hghx.out; have := hgw.out; omega) hXx)
            clear hXx hR6 hQ6 hB6 hP6
            refine hK'.out _ _ (by exact ⟨hP7.out, hQ7.out⟩) (fun hHeld => ?_)
            clear hK' K
            refine tkn 16 (.int .i64 0) rfl (by kernel_rfl) (fun _ _ _ h => h) (yieldsIf_assign _ rfl rfl rfl) hHeld ?_
            simp only [ly, Act.put]
            refine wpAnyH_done (by kernel_rfl) ?_ _
            exact ⟨gh, gt, by simp only [puts, ly, Act.put], hQ7.out, hR7.out, hB7.out⟩
        · skip
          have hK' := hid hK
          clear hK
          rw [if_pos (by kernel_rfl)]
          simp only [ly1, ly2, ly3]
          obtain ⟨gh, hgh⟩ : ∃ g, W3.heap.size = g := ⟨_, rfl⟩
          refine wp_run' (.pointer (some ⟨gh, 0, none⟩)) (W3.alloc (.cells z32 55)) (by rw [← hgh]; kernel_rfl) ?_
          have hb := (Below.refl W3.heap.size W3).alloc (Nat.le_refl _) (.cells z32 55)
          have hN : Holds (W3.alloc (.cells z32 55)) gh 55 z32.toList := by rw [← hgh]; exact Holds.new _ _ _
          have hghx := hid (show g + 1 < gh from by rw [← hgh]; exact hQ3.out.lt)
          generalize W3.alloc (.cells z32 55) = W4 at *
          have hP4 := hid (hP3.out.below hb hP3.out.lt)
          have hQ4 := hid (hQ3.out.below hb hQ3.out.lt)
          have hB4 := hid (bup hb hB3.out)
          have hR4 := hid hN
          clear hb hP3 hQ3 hB3 hN hgh
          refine hK'.out _ _ (by exact ⟨hP4.out, hQ4.out⟩) (fun hHeld => ?_)
          clear hK' K
          refine wpAnyH_ready (rs := [9]) (by kernel_rfl) (by simp) (AllReadyH.cons rfl (fun K hK => ?_) AllReadyH.nil)
          have hK' := hid hK
          clear hK
          rw [if_pos (by kernel_rfl)]
          simp only [ly1, ly2, ly3]
          obtain ⟨gt, hgt⟩ : ∃ g, W4.heap.size = g := ⟨_, rfl⟩
          refine wp_run' (.slice (some ⟨gt, 0, none⟩) 4 4) (W4.alloc (.cells #[.string tp, .string t4, .string t1, .string data] 9)) (by rw [← hgt]; kernel_rfl) ?_
          have hb := (Below.refl W4.heap.size W4).alloc (Nat.le_refl _) (.cells #[.string tp, .string t4, .string t1, .string data] 9)
          have hN := Texts.new W4 [tp, t4, t1, data] #[.string tp, .string t4, .string t1, .string data] rfl 4 rfl 9
          rw [hgt] at hN
          generalize W4.alloc (.cells #[.string tp, .string t4, .string t1, .string data] 9) = W5 at *
          have hP5 := hid (hP4.out.below hb hP4.out.lt)
          have hQ5 := hid (hQ4.out.below hb hQ4.out.lt)
          have hB5 := hid (bup hb hB4.out)
          have hR5 := hid (hR4.out.below hb hR4.out.lt)
          have hT5 := hid hN
          clear hb hP4 hQ4 hB4 hR4 hN hgt
          refine hK'.out _ _ (by exact ⟨hP5.out, hQ5.out⟩) (fun hHeld => ?_)
          clear hK' K
          refine wpAnyH_ready (rs := [10]) (by kernel_rfl) (by simp) (AllReadyH.cons rfl (fun K hK => ?_) AllReadyH.nil)
          have hK' := hid hK
          clear hK
          rw [if_pos (by kernel_rfl)]
          simp only [ly1, ly2, ly3]
          go_simp
          refine (hTg.out _ _ _ hT5.out).mono ?_
          rintro e W6 ⟨rfl, hb⟩
          have hP6 := hid (hP5.out.below hb hP5.out.lt)
          have hQ6 := hid (hQ5.out.below hb hQ5.out.lt)
          have hB6 := hid (bup hb hB5.out)
          have hR6 := hid (hR5.out.below hb hR5.out.lt)
          clear hb hP5 hQ5 hB5 hR5 hT5
          refine hK'.out _ _ (by exact ⟨hP6.out, hQ6.out⟩) (fun hHeld => ?_)
          clear hK' K
          refine tkn 11 (.tuple #[.agg cs.toArray, .int .i64 0]) rfl (by kernel_rfl) (fun _ _ _ h => h) (yieldsIf_move _ rfl rfl rfl) hHeld ?_
          simp only [ly, Act.put]
          refine tkn 12 (.agg cs.toArray) rfl (by kernel_rfl) (fun _ _ _ h => h) (.inl ⟨by kernel_rfl, fun w _ => by go_simp⟩) hHeld ?_
          simp only [ly, Act.put]
          refine tkn 13 (.int .i64 0) rfl (by kernel_rfl) (fun _ _ _ h => h) (.inl ⟨by kernel_rfl, fun w _ => by go_simp⟩) hHeld ?_
          simp only [ly, Act.put]
          refine wpAnyH_ready (rs := [15]) (by kernel_rfl) (by simp) (AllReadyH.cons rfl (fun K hK => ?_) AllReadyH.nil)
          have hK' := hid hK
          clear hK
          rw [if_pos (by kernel_rfl)]
          simp only [ly1, ly2, ly3]
          refine wp_store_mid _ _ _ rfl gh 0 cs.toArray rfl rfl (by exact hC.out.there' hR6.out rfl) (by exact hC.out.size) (by exact hC.out.one) ?_
          generalize hXx : World.setCells _ _ _ _ = W7
          have hR7 := hid (Holds.over (cs := cs) hR6.out (by rw [hC.out.len]; rfl) hXx)
          have hQ7 := hid (holds_far hQ6.out (by have := hghx.out; omega) hXx)
          have hP7 := hid (holds_far hP6.out (by have := hghx.out; omega) hXx)
          have hB7 := hid (below_put hB6.out (by have := hghx.out; have := hgw.out; omega) hXx)
          clear hXx hR6 hQ6 hB6 hP6
          refine hK'.out _ _ (by exact ⟨hP7.out, hQ7.out⟩) (fun hHeld => ?_)
          clear hK' K
          refine tkn 16 (.int .i64 0) rfl (by kernel_rfl) (fun _ _ _ h => h) (yieldsIf_assign _ rfl rfl rfl) hHeld ?_
          simp only [ly, Act.put]
          refine wpAnyH_done (by kernel_rfl) ?_ _
          exact ⟨gh, gt, by simp only [puts, ly, Act.put], hQ7.out, hR7.out, hB7.out⟩
      · skip
        have hK' := hid hK
        clear hK
        rw [if_pos (by kernel_rfl)]
        simp only [ly1, ly2, ly3]
        obtain ⟨gh, hgh⟩ : ∃ g, W2.heap.size = g := ⟨_, rfl⟩
        refine wp_run' (.pointer (some ⟨gh, 0, none⟩)) (W2.alloc (.cells z32 55)) (by rw [← hgh]; kernel_rfl) ?_
        have hb := (Below.refl W2.heap.size W2).alloc (Nat.le_refl _) (.cells z32 55)
        have hN : Holds (W2.alloc (.cells z32 55)) gh 55 z32.toList := by rw [← hgh]; exact Holds.new _ _ _
        have hghx := hid (show g + 1 < gh from by rw [← hgh]; exact hQ2.out.lt)
        generalize W2.alloc (.cells z32 55) = W3 at *
        have hP3 := hid (hP2.out.below hb hP2.out.lt)
        have hQ3 := hid (hQ2.out.below hb hQ2.out.lt)
        have hB3 := hid (bup hb hB2.out)
        have hR3 := hid hN
        clear hb hP2 hQ2 hB2 hN hgh
        refine hK'.out _ _ (by exact ⟨hP3.out, hQ3.out⟩) (fun hHeld => ?_)
        clear hK' K
        refine wpAnyH_ready (rs := [6]) (by kernel_rfl) (by simp) (AllReadyH.cons rfl (fun K hK => ?_) AllReadyH.nil)
        have hK' := hid hK
        clear hK
        rw [if_pos (by kernel_rfl)]
        simp only [ly1, ly2, ly3]
        go_simp
        refine (hu1.out _).mono ?_
        rintro e W4 ⟨rfl, hb⟩
        have hP4 := hid (hP3.out.below hb hP3.out.lt)
        have hQ4 := hid (hQ3.out.below hb hQ3.out.lt)
        have hB4 := hid (bup hb hB3.out)
        have hR4 := hid (hR3.out.below hb hR3.out.lt)
        clear hb hP3 hQ3 hB3 hR3
        refine hK'.out _ _ (by exact ⟨hP4.out, hQ4.out⟩) (fun hHeld => ?_)
        clear hK' K
        refine wpAnyH_ready (rs := [9]) (by kernel_rfl) (by simp) (AllReadyH.cons rfl (fun K hK => ?_) AllReadyH.nil)
        have hK' := hid hK
        clear hK
        rw [if_pos (by kernel_rfl)]
        simp only [ly1, ly2, ly3]
        obtain ⟨gt, hgt⟩ : ∃ g, W4.heap.size = g := ⟨_, rfl⟩
        refine wp_run' (.slice (some ⟨gt, 0, none⟩) 4 4) (W4.alloc (.cells #[.string tp, .string t4, .string t1, .string data] 9)) (by rw [← hgt]; kernel_rfl) ?_
        have hb := (Below.refl W4.heap.size W4).alloc (Nat.le_refl _) (.cells #[.string tp, .string t4, .string t1, .string data] 9)
        have hN := Texts.new W4 [tp, t4, t1, data] #[.string tp, .string t4, .string t1, .string data] rfl 4 rfl 9
        rw [hgt] at hN
        generalize W4.alloc (.cells #[.string tp, .string t4, .string t1, .string data] 9) = W5 at *
        have hP5 := hid (hP4.out.below hb hP4.out.lt)
        have hQ5 := hid (hQ4.out.below hb hQ4.out.lt)
        have hB5 := hid (bup hb hB4.out)
        have hR5 := hid (hR4.out.below hb hR4.out.lt)
        have hT5 := hid hN
        clear hb hP4 hQ4 hB4 hR4 hN hgt
        refine hK'.out _ _ (by exact ⟨hP5.out, hQ5.out⟩) (fun hHeld => ?_)
        clear hK' K
        refine wpAnyH_ready (rs := [10]) (by kernel_rfl) (by simp) (AllReadyH.cons rfl (fun K hK => ?_) AllReadyH.nil)
        have hK' := hid hK
        clear hK
        rw [if_pos (by kernel_rfl)]
        simp only [ly1, ly2, ly3]
        go_simp
        refine (hTg.out _ _ _ hT5.out).mono ?_
        rintro e W6 ⟨rfl, hb⟩
        have hP6 := hid (hP5.out.below hb hP5.out.lt)
        have hQ6 := hid (hQ5.out.below hb hQ5.out.lt)
        have hB6 := hid (bup hb hB5.out)
        have hR6 := hid (hR5.out.below hb hR5.out.lt)
        clear hb hP5 hQ5 hB5 hR5 hT5
        refine hK'.out _ _ (by exact ⟨hP6.out, hQ6.out⟩) (fun hHeld => ?_)
        clear hK' K
        refine tkn 11 (.tuple #[.agg cs.toArray, .int .i64 0]) rfl (by kernel_rfl) (fun _ _ _ h => h) (yieldsIf_move _ rfl rfl rfl) hHeld ?_
        simp only [ly, Act.put]
        refine tkn 12 (.agg cs.toArray) rfl (by kernel_rfl) (fun _ _ _ h => h) (.inl ⟨by kernel_rfl, fun w _ => by go_simp⟩) hHeld ?_
        simp only [ly, Act.put]
        refine tkn 13 (.int .i64 0) rfl (by kernel_rfl) (fun _ _ _ h => h) (.inl ⟨by kernel_rfl, fun w _ => by go_simp⟩) hHeld ?_
        simp only [ly, Act.put]
        refine wpAnyH_ready (rs := [15]) (by kernel_rfl) (by simp) (AllReadyH.cons rfl (fun K hK => ?_) AllReadyH.nil)
        have hK' := hid hK
        clear hK
        rw [if_pos (by kernel_rfl)]
        simp only [ly1, ly2, ly3]
        refine wp_store_mid _ _ _ rfl gh 0 cs.toArray rfl rfl (by exact hC.out.there' hR6.out rfl) (by exact hC.out.size) (by exact hC.out.one) ?_
        generalize hXx : World.setCells _ _ _ _ = W7
        have hR7 := hid (Holds.over (cs := cs) hR6.out (by rw [hC.out.len]; rfl) hXx)
        have hQ7 := hid (holds_far hQ6.out (by have := hghx.out; omega) hXx)
        have hP7 := hid (holds_far hP6.out (by have := hghx.out; omega) hXx)
        have hB7 := hid (below_put hB6.out (by have := hghx.out; have := hgw.out; omega) hXx)
        clear hXx hR6 hQ6 hB6 hP6
        refine hK'.out _ _ (by exact ⟨hP7.out, hQ7.out⟩) (fun hHeld => ?_)
        clear hK' K
        refine tkn 16 (.int .i64 0) rfl (by kernel_rfl) (fun _ _ _ h => h) (yieldsIf_assign _ rfl rfl rfl) hHeld ?_
        simp only [ly, Act.put]
        refine wpAnyH_done (by kernel_rfl) ?_ _
        exact ⟨gh, gt, by simp only [puts, ly, Act.put], hQ7.out, hR7.out, hB7.out⟩
    · skip
      have hK' := hid hK
      clear hK
      rw [if_pos (by kernel_rfl)]
      simp only [ly1, ly2, ly3]
      obtain ⟨gh, hgh⟩ : ∃ g, W1.heap.size = g := ⟨_, rfl⟩
      refine wp_run' (.pointer (some ⟨gh, 0, none⟩)) (W1.alloc (.cells z32 55)) (by rw [← hgh]; kernel_rfl) ?_
      have hb := (Below.refl W1.heap.size W1).alloc (Nat.le_refl _) (.cells z32 55)
      have hN : Holds (W1.alloc (.cells z32 55)) gh 55 z32.toList := by rw [← hgh]; exact Holds.new _ _ _
      have hghx := hid (show g + 1 < gh from by rw [← hgh]; exact hQ1.out.lt)
      generalize W1.alloc (.cells z32 55) = W2 at *
      have hP2 := hid (hP1.out.below hb hP1.out.lt)
      have hQ2 := hid (hQ1.out.below hb hQ1.out.lt)
      have hB2 := hid (bup hb hB1.out)
      have hR2 := hid hN
      clear hb hP1 hQ1 hB1 hN hgh
      refine hK'.out _ _ (by exact ⟨hP2.out, hQ2.out⟩) (fun hHeld => ?_)
      clear hK' K
      refine wpAnyH_ready (rs := [3]) (by kernel_rfl) (by simp) (AllReadyH.cons rfl (fun K hK => ?_) AllReadyH.nil)
      have hK' := hid hK
      clear hK
      rw [if_pos (by kernel_rfl)]
      simp only [ly1, ly2, ly3]
      go_simp
      refine (hu4.out _).mono ?_
      rintro e W3 ⟨rfl, hb⟩
      have hP3 := hid (hP2.out.below hb hP2.out.lt)
      have hQ3 := hid (hQ2.out.below hb hQ2.out.lt)
      have hB3 := hid (bup hb hB2.out)
      have hR3 := hid (hR2.out.below hb hR2.out.lt)
      clear hb hP2 hQ2 hB2 hR2
      refine hK'.out _ _ (by exact ⟨hP3.out, hQ3.out⟩) (fun hHeld => ?_)
      clear hK' K
      refine wpAnyH_ready (rs := [6]) (by kernel_rfl) (by simp) (AllReadyH.cons rfl (fun K hK => ?_) AllReadyH.nil)
      have hK' := hid hK
      clear hK
      rw [if_pos (by kernel_rfl)]
      simp only [ly1, ly2, ly3]
      go_simp
      refine (hu1.out _).mono ?_
      rintro e W4 ⟨rfl, hb⟩
      have hP4 := hid (hP3.out.below hb hP3.out.lt)
      have hQ4 := hid (hQ3.out.below hb hQ3.out.lt)
      have hB4 := hid (bup hb hB3.out)
      have hR4 := hid (hR3.out.below hb hR3.out.lt)
      clear hb hP3 hQ3 hB3 hR3
      refine hK'.out _ _ (by exact ⟨hP4.out, hQ4.out⟩) (fun hHeld => ?_)
      clear hK' K
      refine wpAnyH_ready (rs := [9]) (by kernel_rfl) (by simp) (AllReadyH.cons rfl (fun K hK => ?_) AllReadyH.nil)
      have hK' := hid hK
      clear hK
      rw [if_pos (by kernel_rfl)]
      simp only [ly1, ly2, ly3]
      obtain ⟨gt, hgt⟩ : ∃ g, W4.heap.size = g := ⟨_, rfl⟩
      refine wp_run' (.slice (some ⟨gt, 0, none⟩) 4 4) (W4.alloc (.cells #[.string tp, .string t4, .string t1, .string data] 9)) (by rw [← hgt]; kernel_rfl) ?_
      have hb := (Below.refl W4.heap.size W4).alloc (Nat.le_refl _) (.cells #[.string tp, .string t4, .string t1, .string data] 9)
      have hN := Texts.new W4 [tp, t4, t1, data] #[.string tp, .string t4, .string t1, .string data] rfl 4 rfl 9
      rw [hgt] at hN
      generalize W4.alloc (.cells #[.string tp, .string t4, .string t1, .string data] 9) = W5 at *
      have hP5 := hid (hP4.out.below hb hP4.out.lt)
      have hQ5 := hid (hQ4.out.below hb hQ4.out.lt)
      have hB5 := hid (bup hb hB4.out)
      have hR5 := hid (hR4.out.below hb hR4.out.lt)
      have hT5 := hid hN
      clear hb hP4 hQ4 hB4 hR4 hN hgt
      refine hK'.out _ _ (by exact ⟨hP5.out, hQ5.out⟩) (fun hHeld => ?_)
      clear hK' K
      refine wpAnyH_ready (rs := [10]) (by kernel_rfl) (by simp) (AllReadyH.cons rfl (fun K hK => ?_) AllReadyH.nil)
      have hK' := hid hK
      clear hK
      rw [if_pos (by kernel_rfl)]
      simp only [ly1, ly2, ly3]
      go_simp
      refine (hTg.out _ _ _ hT5.out).mono ?_
      rintro e W6 ⟨rfl, hb⟩
      have hP6 := hid (hP5.out.below hb hP5.out.lt)
      have hQ6 := hid (hQ5.out.below hb hQ5.out.lt)
      have hB6 := hid (bup hb hB5.out)
      have hR6 := hid (hR5.out.below hb hR5.out.lt)
      clear hb hP5 hQ5 hB5 hR5 hT5
      refine hK'.out _ _ (by exact ⟨hP6.out, hQ6.out⟩) (fun hHeld => ?_)
      clear hK' K
      refine tkn 11 (.tuple #[.agg cs.toArray, .int .i64 0]) rfl (by kernel_rfl) (fun _ _ _ h => h) (yieldsIf_move _ rfl rfl rfl) hHeld ?_
      simp only [ly, Act.put]
      refine tkn 12 (.agg cs.toArray) rfl (by kernel_rfl) (fun _ _ _ h => h) (.inl ⟨by kernel_rfl, fun w _ => by go_simp⟩) hHeld ?_
      simp only [ly, Act.put]
      refine tkn 13 (.int .i64 0) rfl (by kernel_rfl) (fun _ _ _ h => h) (.inl ⟨by kernel_rfl, fun w _ => by go_simp⟩) hHeld ?_
      simp only [ly, Act.put]
      refine wpAnyH_ready (rs := [15]) (by kernel_rfl) (by simp) (AllReadyH.cons rfl (fun K hK => ?_) AllReadyH.nil)
      have hK' := hid hK
      clear hK
      rw [if_pos (by kernel_rfl)]
      simp only [ly1, ly2, ly3]
      refine wp_store_mid _ _ _ rfl gh 0 cs.toArray rfl rfl (by exact hC.out.there' hR6.out rfl) (by exact hC.out.size) (by exact hC.out.one) ?_
      generalize hXx : World.setCells _ _ _ _ = W7
      have hR7 := hid (Holds.over (cs := cs) hR6.out (by rw [hC.out.len]; rfl) hXx)
      have hQ7 := hid (holds_far hQ6.out (by have := hghx.out; omega) hXx)
      have hP7 := hid (holds_far hP6.out (by have := hghx.out; omega) hXx)
      have hB7 := hid (below_put hB6.out (by have := hghx.out; have := hgw.out; omega) hXx)
      clear hXx hR6 hQ6 hB6 hP6
      refine hK'.out _ _ (by exact ⟨hP7.out, hQ7.out⟩) (fun hHeld => ?_)
      clear hK' K
      refine tkn 16 (.int .i64 0) rfl (by kernel_rfl) (fun _ _ _ h => h) (yieldsIf_assign _ rfl rfl rfl) hHeld ?_
      simp only [ly, Act.put]
      refine wpAnyH_done (by kernel_rfl) ?_ _
      exact ⟨gh, gt, by simp only [puts, ly, Act.put], hQ7.out, hR7.out, hB7.out⟩
  clear hP0 hQ0 hB0
  rintro a' W20 ⟨gh, gt, rfl, hq, hr, hb⟩
  have hQ20 := hid hq
  have hR20 := hid hr
  have hB20 := hid hb
  clear hq hr hb
  simp only [puts, ly, Act.put]
  go_wp2_with fail
  have hb : Below W20.heap.size W20 W20.drew := (Below.refl _ _).drew
  have hQ21 := hid (hQ20.out.below hb hQ20.out.lt)
  have hR21 := hid (hR20.out.below hb hR20.out.lt)
  have hB21 := hid (bup hb hB20.out)
  clear hb hQ20 hR20 hB20
  refine wp_region_held_drew (S := fun V => Holds V (g + 1) 37 [.int .i64 k, .string data] ∧ Holds V gh 55 cs) (by kernel_rfl) (by exact ⟨hQ21.out, hR21.out⟩) (fun hHeld => ?_)
  generalize W20.drew = W21 at *
  refine tkn 0 (.int .i64 (s : Int)) rfl (by kernel_rfl) (fun _ _ _ h => h) (yieldsIf_move _ rfl rfl rfl) hHeld ?_
  simp only [ly, Act.put]
  refine tkn 3 (.pointer (some ⟨g + 1, 0, none⟩)) rfl (by kernel_rfl) (fun _ _ _ h => h) (.inl ⟨by kernel_rfl, fun w _ => by go_simp⟩) hHeld ?_
  simp only [ly, Act.put]
  refine tkn 4 (.int .i64 k) rfl (by kernel_rfl) (fun _ _ _ h => h) (.inl ⟨by kernel_rfl, fun V hS => by have c0 := hS.1.cK 0 _ rfl; go_simp⟩) hHeld ?_
  simp only [ly, Act.put]
  refine tkn 7 (.pointer (some ⟨g + 1, 1, none⟩)) rfl (by kernel_rfl) (fun _ _ _ h => h) (.inl ⟨by kernel_rfl, fun w _ => by go_simp⟩) hHeld ?_
  simp only [ly, Act.put]
  refine tkn 8 (.string data) rfl (by kernel_rfl) (fun _ _ _ h => h) (.inl ⟨by kernel_rfl, fun V hS => by have c1 := hS.1.cK 1 _ rfl; go_simp⟩) hHeld ?_
  simp only [ly, Act.put]
  refine tkn 9 (.int .i64 (data.size : Int)) rfl (by kernel_rfl) (fun _ _ _ h => h) (.inl ⟨by kernel_rfl, fun w _ => by go_simp⟩) hHeld ?_
  simp only [ly, Act.put]
  refine tkn 12 (.pointer (some ⟨g + 1, 1, none⟩)) rfl (by kernel_rfl) (fun _ _ _ h => h) (.inl ⟨by kernel_rfl, fun w _ => by go_simp⟩) hHeld ?_
  simp only [ly, Act.put]
  refine tkn 13 (.string data) rfl (by kernel_rfl) (fun _ _ _ h => h) (.inl ⟨by kernel_rfl, fun V hS => by have c1 := hS.1.cK 1 _ rfl; go_simp⟩) hHeld ?_
  simp only [ly, Act.put]
  refine tkn 15 (.slice (some ⟨gh, 0, none⟩) 32 32) rfl (by kernel_rfl) (fun _ _ _ h => h) (.inl ⟨by kernel_rfl, fun w _ => by go_simp⟩) hHeld ?_
  simp only [ly, Act.put]
  refine tkn 16 (.string ts) rfl (by kernel_rfl) (fun _ _ _ h => h) (.inl ⟨by kernel_rfl, fun V hS => by have hc := hvs.out V _ hS.2; go_simp⟩) hHeld ?_
  simp only [ly, Act.put]
  refine wpAnyH_ready (rs := [1]) (by kernel_rfl) (by simp) (AllReadyH.cons rfl (fun K hK => ?_) AllReadyH.nil)
  have hK' := hid hK
  clear hK
  rw [if_pos (by kernel_rfl)]
  simp only [ly1, ly2, ly3]
  go_simp
  refine (hu4.out _).mono ?_
  rintro e W22 ⟨rfl, hb⟩
  have hQ22 := hid (hQ21.out.below hb hQ21.out.lt)
  have hR22 := hid (hR21.out.below hb hR21.out.lt)
  have hB22 := hid (bup hb hB21.out)
  clear hb hQ21 hR21 hB21
  refine hK'.out _ _ (by exact ⟨hQ22.out, hR22.out⟩) (fun hHeld => ?_)
  clear hK' K
  refine tkn 2 (.string (⟨#[65, 74]⟩ ++ t4)) rfl (by kernel_rfl) (fun _ _ _ h => h) (.inl ⟨by kernel_rfl, fun w _ => by go_simp⟩) hHeld ?_
  simp only [ly, Act.put]
  refine wpAnyH_ready (rs := [5]) (by kernel_rfl) (by simp) (AllReadyH.cons rfl (fun K hK => ?_) AllReadyH.nil)
  have hK' := hid hK
  clear hK
  rw [if_pos (by kernel_rfl)]
  simp only [ly1, ly2, ly3]
  go_simp
  refine (hu1.out _).mono ?_
  rintro e W23 ⟨rfl, hb⟩
  have hQ23 := hid (hQ22.out.below hb hQ22.out.lt)
  have hR23 := hid (hR22.out.below hb hR22.out.lt)
  have hB23 := hid (bup hb hB22.out)
  clear hb hQ22 hR22 hB22
  refine hK'.out _ _ (by exact ⟨hQ23.out, hR23.out⟩) (fun hHeld => ?_)
  clear hK' K
  refine tkn 6 (.string (⟨#[65, 74]⟩ ++ t4 ++ t1)) rfl (by kernel_rfl) (fun _ _ _ h => h) (.inl ⟨by kernel_rfl, fun w _ => by go_simp⟩) hHeld ?_
  simp only [ly, Act.put]
  refine wpAnyH_ready (rs := [10]) (by kernel_rfl) (by simp) (AllReadyH.cons rfl (fun K hK => ?_) AllReadyH.nil)
  have hK' := hid hK
  clear hK
  rw [if_pos (by kernel_rfl)]
  simp only [ly1, ly2, ly3]
  go_simp
  refine (hu2.out _).mono ?_
  rintro e W24 ⟨rfl, hb⟩
  have hQ24 := hid (hQ23.out.below hb hQ23.out.lt)
  have hR24 := hid (hR23.out.below hb hR23.out.lt)
  have hB24 := hid (bup hb hB23.out)
  clear hb hQ23 hR23 hB23
  refine hK'.out _ _ (by exact ⟨hQ24.out, hR24.out⟩) (fun hHeld => ?_)
  clear hK' K
  refine tkn 11 (.string (⟨#[65, 74]⟩ ++ t4 ++ t1 ++ t2)) rfl (by kernel_rfl) (fun _ _ _ h => h) (.inl ⟨by kernel_rfl, fun w _ => by go_simp⟩) hHeld ?_
  simp only [ly, Act.put]
  refine tkn 14 (.string (⟨#[65, 74]⟩ ++ t4 ++ t1 ++ t2 ++ data)) rfl (by kernel_rfl) (fun _ _ _ h => h) (.inl ⟨by kernel_rfl, fun w _ => by go_simp⟩) hHeld ?_
  simp only [ly, Act.put]
  refine tkn 17 (.string (⟨#[65, 74]⟩ ++ t4 ++ t1 ++ t2 ++ data ++ ts)) rfl (by kernel_rfl) (fun _ _ _ h => h) (.inl ⟨by kernel_rfl, fun w _ => by go_simp⟩) hHeld ?_
  simp only [ly, Act.put]
  refine tkn 18 (.string (⟨#[65, 74]⟩ ++ t4 ++ t1 ++ t2 ++ data ++ ts)) rfl (by kernel_rfl) (fun _ _ _ h => h) (yieldsIf_assign _ rfl rfl rfl) hHeld ?_
  simp only [ly, Act.put]
  refine wpAnyH_done (by kernel_rfl) ?_ _
  rw [hY.out]
  go_wp2_with (first
    | (go_at_call 103; refine (hwh.out _).mono ?_; rintro e w' ⟨rfl, rfl⟩)
    | fail)
  go_at_call 95
  refine (hRp.out _).mono ?_
  rintro e W25 ⟨rfl, hb⟩
  have hQ25 := hid (hQ24.out.below hb hQ24.out.lt)
  have hR25 := hid (hR24.out.below hb hR24.out.lt)
  have hB25 := hid (bup hb hB24.out)
  clear hb hQ24 hR24 hB24
  go_wp2_with fail
  go_ret2
  exact ⟨congrArg (fun s => Ending.returned (.tuple #[.string s, .int .i64 0])) hfin.out, hB25.out⟩


end Go.Proofs.YtmgaegaibglnhaaGreat
namespace Go.Proofs.YtmgaegaibglnhaaGreat
open Go.RowKit
open Go.Lib (strCells strCells_length strCells_oneCell)
attribute [local irreducible] Sha.compress Sha.blocks Sha.sha Sha.pad

theorem seal_any (prev : List UInt8) (hp : prev.length = 32) (seq : Int) (r : Rec) (w : World) :
    Calls Tryz.prog 47 #[.agg (byteCells prev).toArray, .int .i64 seq, .agg (recV r).toArray] w fun e w' => e = .returned (.tuple #[.string (sealAns prev seq r).1, .int .i64 (sealAns prev seq r).2]) ∧ Below w.heap.size w w' := by
  cases hm : sealMay seq r with
  | false =>
    unfold sealAns
    rw [hm]
    exact seal_bad prev seq r hm w
  | true =>
    obtain ⟨h1, h2, h3, h4, h5⟩ := sealMay_iff.1 hm
    unfold sealAns
    rw [hm]
    obtain ⟨s, rfl⟩ : ∃ s : Nat, seq = (s : Int) := ⟨seq.toNat, by omega⟩
    obtain ⟨k, data⟩ := r
    obtain ⟨kd, rfl⟩ : ∃ n : Nat, k = (n : Int) := ⟨k.toNat, by have : 0 ≤ k := h3; omega⟩
    exact seal_good prev hp s kd data (by omega) (by have : (kd : Int) ≤ 255 := h4; omega) h5 w

/-- A journal's cells. -/
def jCells (d : Nat) (p : List UInt8) (s u : Int) : List Value := .pointer (some ⟨d, 0, none⟩) :: (byteCells p ++ [.int .i64 s, .int .i64 u])
section
variable {d : Nat} {p q : List UInt8} {s u : Int}
theorem jCells_len (hp : p.length = 32) : (jCells d p s u).length = 35 := by
  unfold jCells byteCells
  rw [List.length_cons, List.length_append, List.length_map, hp]
  rfl
theorem jCells_seq (hp : p.length = 32) : (jCells d p s u)[33]? = some (.int .i64 s) := by
  unfold jCells byteCells
  rw [List.getElem?_cons_succ, List.getElem?_append_right (by rw [List.length_map, hp]; decide), List.length_map, hp]
  rfl
theorem jCells_used (hp : p.length = 32) : (jCells d p s u)[34]? = some (.int .i64 u) := by
  unfold jCells byteCells
  rw [List.getElem?_cons_succ, List.getElem?_append_right (by rw [List.length_map, hp]; decide), List.length_map, hp]
  rfl
theorem jCells_set_seq (hp : p.length = 32) (v : Int) : (jCells d p s u).set 33 (.int .i64 v) = jCells d p v u := by
  unfold jCells byteCells
  rw [List.set_cons_succ, List.set_append_right _ _ (by rw [List.length_map, hp]; decide), List.length_map, hp]
  rfl
theorem jCells_set_used (hp : p.length = 32) (v : Int) : (jCells d p s u).set 34 (.int .i64 v) = jCells d p s v := by
  unfold jCells byteCells
  rw [List.set_cons_succ, List.set_append_right _ _ (by rw [List.length_map, hp]; decide), List.length_map, hp]
  rfl
theorem jCells_put (hp : p.length = 32) (hq : q.length = 32) : put (jCells d p s u) 1 (byteCells q) = jCells d q s u := by
  have h1 : (byteCells p).length = 32 := by rw [byteCells, List.length_map, hp]
  have h2 : (byteCells q).length = 32 := by rw [byteCells, List.length_map, hq]
  unfold put jCells
  rw [h2, show (1 : Nat) = 0 + 1 from rfl, List.take_succ_cons, List.take_zero, show 0 + 1 + 32 = 32 + 1 from rfl, List.drop_succ_cons, List.drop_append_of_le_length (by rw [h1]; exact Nat.le_refl _), List.drop_of_length_le (by rw [h1]; exact Nat.le_refl _)]
  rfl
end
/-- A journal in memory, block j, on a disk d. -/
def JAt (w : World) (j d : Nat) (st : JSt) : Prop := Holds w j 101 (jCells d st.prev (st.seq : Int) (st.used : Int))
theorem ht_put {w w0 W : World} {j : Nat} {t : TypeId} {cs vs : List Value} {o : Nat} (h : Holds w j t cs) (hl : o + vs.length ≤ cs.length) (ht : Turns w0 w j none) (e : w.setCells j o vs = W) : Holds W j t (put cs o vs) ∧ Turns w0 W j none := by
  subst e
  refine ⟨h.put o vs hl, ?_⟩
  clear hl h
  induction vs generalizing w o with
  | nil => exact ht
  | cons v vs ih => exact ih (o := o + 1) (ht.setCell o v)

set_option maxRecDepth 100000 in
set_option maxHeartbeats 4000000 in
theorem pass_any (j d : Nat) (st : JSt) (hp : st.prev.length = 32) (r : Rec) (b : ByteArray) (hb : 41 + r.data.size ≤ b.size) (h1 : st.seq < 4294967296) (h2 : st.used ≤ 1000000) (h3 : b.size ≤ 1000000) (w : World) (hJ : JAt w j d st) :
    Calls Tryz.prog 49 #[.pointer (some ⟨j, 0, none⟩), .agg (recV r).toArray, .string b] w fun e w' => e = .returned (.tuple #[]) ∧ JAt w' j d (st.pass r b) ∧ Turns w w' j none := by
  obtain ⟨k, data⟩ := r
  obtain ⟨prev, sq, us⟩ := st
  obtain ⟨pv, hpv⟩ : ∃ p, (b.data.toList.drop (9 + data.size)).take 32 = p := ⟨_, rfl⟩
  have hpl : pv.length = 32 := by
    rw [← hpv, List.length_take, List.length_drop, data_length]
    have : 41 + data.size ≤ b.size := hb
    omega
  have hans : JSt.pass ⟨prev, sq, us⟩ ⟨k, data⟩ b = ⟨pv, sq + 1, us + b.size / 64⟩ := by rw [← hpv]; rfl
  rw [hans]
  have hp : prev.length = 32 := hp
  have h1 : sq < 4294967296 := h1
  have h2 : us ≤ 1000000 := h2
  have hb : 41 + data.size ≤ b.size := hb
  show Calls Tryz.prog 49 #[.pointer (some ⟨j, 0, none⟩), .agg #[.int .i64 k, .string data], .string b] w _
  obtain ⟨g, hg⟩ : ∃ g, w.heap.size = g := ⟨_, rfl⟩
  obtain ⟨W0, hW0⟩ : ∃ V, w.alloc (.cells #[.int .i64 k, .string data] 37) = V := ⟨_, rfl⟩
  have hQ0 := hid (show Holds W0 g 37 [.int .i64 k, .string data] from by rw [← hW0, ← hg]; exact Holds.new _ 37 #[.int .i64 k, .string data])
  have hJ0 : Holds W0 j 101 (jCells d prev (sq : Int) (us : Int)) := by rw [← hW0]; exact Holds.alloc hJ _
  have hjg : j ≠ g := by have := Holds.lt hJ; omega
  have hT0 := hid (show Turns w W0 j none from by rw [← hW0]; exact (Turns.refl _ _ _).alloc _)
  have hJ0 := hid hJ0
  have hW0' := hid hW0
  have hgw := hid hg
  have hpp := hid hp
  have hql := hid hpl
  have m1 : IntKind.i64.wrap (9 + (data.size : Int)) = ((9 + data.size : Nat) : Int) := by rw [IntWalk.i64_in _ (by omega)]; omega
  obtain ⟨q, hq⟩ : ∃ q, b.size / 64 = q := ⟨_, rfl⟩
  obtain ⟨S1, hS1⟩ : ∃ q, sq + 1 = q := ⟨_, rfl⟩
  obtain ⟨U1, hU1⟩ : ∃ x, us + q = x := ⟨_, rfl⟩
  have hqb : q ≤ 1000000 := by rw [← hq]; omega
  have m2 : IntKind.i64.wrap ((sq : Int) + 1) = (S1 : Int) := by rw [IntWalk.i64_in _ (by omega)]; omega
  have m3a : IntKind.i64.wrap ((b.size : Int) / 64) = (q : Int) := by rw [IntWalk.i64_in _ (by omega)]; omega
  have m3 : IntKind.i64.wrap ((us : Int) + (q : Int)) = (U1 : Int) := by rw [IntWalk.i64_in _ (by omega)]; omega
  rw [hq, hS1, hU1]
  have m4 : (0 : Int) ≤ 9 + (data.size : Int) := by omega
  have m5 : 9 + (data.size : Int) ≤ (b.size : Int) := by omega
  have m6 : (9 + (data.size : Int)).toNat = 9 + data.size := by omega
  obtain ⟨bx, hbx⟩ : ∃ x, b.extract (9 + data.size) b.size = x := ⟨_, rfl⟩
  have hbt : bx.data.toList.take 32 = pv := by
    rw [← hbx, ← hpv]
    simp only [ByteArray.data_extract, Array.toList_extract, List.extract_eq_take_drop]
    rw [List.take_take]
    congr 1
    omega
  have hbt := hid hbt
  have hcl := hid (show (byteCells pv).length = 32 from by rw [byteCells, List.length_map, hpl])
  clear hJ hW0 hg hpv hans hp hpl hb h1 h2 h3 hq hS1 hU1 hqb
  go_enter Tryz.func49, Tryz.ntmps49
  go_wp2_with (first
    | ((with_reducible refine at_slot (some 4) ?_); refine wpList_run rfl (.pointer (some ⟨g, 0, none⟩)) (w.alloc (.cells #[.int .i64 k, .string data] 37)) (by rw [← hgw.out]; kernel_rfl) ?_; rw [hW0'.out])
    | fail)
  have hb : Below W0.heap.size W0 W0.drew := (Below.refl _ _).drew
  have hJ1 := hid (hJ0.out.below hb hJ0.out.lt)
  have hQ1 := hid (hQ0.out.below hb hQ0.out.lt)
  have hT1 := hid (tr_up hb hT0.out)
  clear hb hJ0 hQ0 hT0
  refine wp_region_held_drew (S := fun V => Holds V g 37 [.int .i64 k, .string data]) (by kernel_rfl) (by exact hQ1.out) (fun hHeld => ?_)
  generalize W0.drew = W1 at *
  refine tkn 0 (.pointer (some ⟨j, 0, none⟩)) rfl (by kernel_rfl) (fun _ _ _ h => h) (yieldsIf_move _ rfl rfl rfl) hHeld ?_
  simp only [ly, Act.put]
  refine tkn 1 (.pointer (some ⟨j, 0, none⟩)) rfl (by kernel_rfl) (fun _ _ _ h => h) (.inl ⟨by kernel_rfl, fun w _ => by go_simp⟩) hHeld ?_
  simp only [ly, Act.put]
  refine tkn 2 (.pointer (some ⟨j, 1, none⟩)) rfl (by kernel_rfl) (fun _ _ _ h => h) (.inl ⟨by kernel_rfl, fun w _ => by go_simp⟩) hHeld ?_
  simp only [ly, Act.put]
  refine tkn 3 (.slice (some ⟨j, 1, none⟩) 32 32) rfl (by kernel_rfl) (fun _ _ _ h => h) (.inl ⟨by kernel_rfl, fun w _ => by go_simp⟩) hHeld ?_
  simp only [ly, Act.put]
  refine tkn 4 (.string b) rfl (by kernel_rfl) (fun _ _ _ h => h) (yieldsIf_move _ rfl rfl rfl) hHeld ?_
  simp only [ly, Act.put]
  refine tkn 5 (.pointer (some ⟨g, 1, none⟩)) rfl (by kernel_rfl) (fun _ _ _ h => h) (.inl ⟨by kernel_rfl, fun w _ => by go_simp⟩) hHeld ?_
  simp only [ly, Act.put]
  refine tkn 6 (.string data) rfl (by kernel_rfl) (fun _ _ _ h => h) (.inl ⟨by kernel_rfl, fun V hS => by have c1 := hS.cK 1 _ rfl; go_simp⟩) hHeld ?_
  simp only [ly, Act.put]
  refine tkn 7 (.int .i64 (data.size : Int)) rfl (by kernel_rfl) (fun _ _ _ h => h) (.inl ⟨by kernel_rfl, fun w _ => by go_simp⟩) hHeld ?_
  simp only [ly, Act.put]
  refine tkn 8 (.int .i64 ((9 + data.size : Nat) : Int)) rfl (by kernel_rfl) (fun _ _ _ h => h) (.inl ⟨by kernel_rfl, fun w _ => by go_simp⟩) hHeld ?_
  simp only [ly, Act.put]
  refine tkn 9 (.string bx) rfl (by kernel_rfl) (fun _ _ _ h => h) (.inl ⟨by kernel_rfl, fun V hS => by go_simp; try rw [hbx]⟩) hHeld ?_
  simp only [ly, Act.put]
  refine wpAnyH_ready (rs := [10]) (by kernel_rfl) (by simp) (AllReadyH.cons rfl (fun K hK => ?_) AllReadyH.nil)
  have hK' := hid hK
  clear hK
  rw [if_pos (by kernel_rfl)]
  simp only [ly1, ly2, ly3]
  refine wp_copy_min (.tmp 9) (.tmp 15) 82 9 5 rfl Tryz.underlying82 Tryz.sizeOf5 j 1 32 32 _ rfl rfl (by exact hJ1.out.there 1 32 (by rw [jCells_len hpp.out]; decide)) ?_
  rw [hbt.out]
  generalize hXx : World.setCells _ _ _ _ = W2
  have hh := ht_put hJ1.out (by rw [jCells_len hpp.out, hcl.out]; decide) hT1.out hXx
  rw [jCells_put hpp.out hql.out] at hh
  have hJ2 := hid hh.1
  have hT2 := hid hh.2
  have hQ2 := hid (holds_far hQ1.out (Ne.symm hjg) hXx)
  clear hXx hh hJ1 hT1 hQ1
  refine hK'.out _ _ (by exact hQ2.out) (fun hHeld => ?_)
  clear hK' K
  refine wpAnyH_done (by kernel_rfl) ?_ _
  have c33 := (hJ2.out.cell 33).trans (jCells_seq hql.out)
  have c34 := (hJ2.out.cell 34).trans (jCells_used hql.out)
  have f33 := hJ2.out.frozen 33
  have f34 := hJ2.out.frozen 34
  have hE1 := hJ2.out.set 33 (.int .i64 (S1 : Int))
  rw [jCells_set_seq hql.out] at hE1
  have hE2 := hE1.set 34 (.int .i64 (U1 : Int))
  rw [jCells_set_used hql.out] at hE2
  have hE2 := hid hE2
  have hT9 := hid ((hT2.out.setCell 33 (.int .i64 (S1 : Int))).setCell 34 (.int .i64 (U1 : Int)))
  clear hE1
  go_wp2_with fail
  go_end0
  exact ⟨rfl, hE2.out, hT9.out⟩


end Go.Proofs.YtmgaegaibglnhaaGreat
namespace Go.Proofs.YtmgaegaibglnhaaGreat
open Go.RowKit

/-- An iterator that may write cells that it lays; the body's row lies in block o. -/
def SeqShare {α : Type} (F : Fence) (n : Nat) (P : Program) (g : Nat) (lb : Array Value) (encs : α → Array Value) (Kp : Option Nat → World → World → Prop) (S : List α → Prop) (N : Nat) (w : World) : Prop :=
  ∀ (l : Nat) (J : List α → Option Nat → World → Prop) (W : World), Below w.heap.size w W →
    (∀ s o A B row, J s o A → A.grownBy B row → (∀ r, row = some r → W.heap.size ≤ r ∧ o ≠ some r) → J s o B) →
    (∀ s o A k, J s o A → o = some k → W.heap.size ≤ k ∧ ∃ c t f, A.heap[k]? = some (.cells c t f)) →
    (∀ pre x o W1, J pre o W1 → pre.length < N → YieldAt F (n - 1) P l (encs x) W1 fun e W' => e = .returned (.bool true) ∧ ∃ o', Fresh W1 o o' ∧ J (pre ++ [x]) o' W' ∧ Kp o W1 W') →
    J [] none W → CallsIn F n P g (#[.func (.yield l) #[] #[]] ++ lb) W fun e W' => (∃ v, e = .returned v) ∧ ∃ xs o, S xs ∧ J xs o W'

section
variable {F : Fence} {n : Nat} {P : Program}

/-- A range over such an iterator, outside every other: a body that never leaves. -/
theorem wpIn_range_share {α : Type} {g : Operand} {ps : Array Tmp} {assign body : Code} {Q : Exit → Act → World → Prop} {a : Act} {w : World}
    (hro : F.round = none) (h1 : 1 ≤ n) {gf : Nat} {lb : Array Value} (hg : a.eval g = .func (.func gf) #[] lb) (hFg : F.fn gf) (eg : ∀ args w, (callFunc gf args).run P w = .ok (.enter gf args) w)
    {encs : α → Array Value} {Kp : Option Nat → World → World → Prop} {S : List α → Prop} {N : Nat} {w0 : World} (hseq : SeqShare F (n - 1) P gf lb encs Kp S N w0) (hb0 : Below w0.heap.size w0 w) (hps : ∀ x, (encs x).size = ps.size)
    (hKt : ∀ {o : Option Nat} {A B C : World}, Kp o A B → Kp o B C → Kp o A C) (hKb : ∀ (q : Option Nat) (W : World) (l : Nat) (o o' : Obj), w.heap.size ≤ l → W.heap[l]? = some o → o.isCells = false → Kp q W (W.putObj l o'))
    (I : List α → Option Nat → World → Prop) (hI : ∀ s o A B row, I s o A → A.grownBy B row → (∀ r, row = some r → w.heap.size ≤ r ∧ o ≠ some r) → I s o B) (hIo : ∀ s o A k, I s o A → o = some k → w.heap.size + 2 ≤ k ∧ ∃ c t f, A.heap[k]? = some (.cells c t f)) (h0 : I [] none w)
    (Ax : α → Act → World → Prop) (hAx : ∀ x a' A B row, Ax x a' A → A.grownBy B row → (∀ r, row = some r → w.heap.size ≤ r ∧ ∃ o : Obj, A.heap[r]? = some o ∧ o.isCells = false) → Ax x a' B)
    (hassign : ∀ (l : Nat) (pre : List α) (x : α) (o : Option Nat) (W : World) (K : Act → World → Prop), w.heap.size + 2 ≤ W.heap.size → I pre o W → (∀ a' W', KeepsFrom w.heap.size W W' → Kp o W W' → I pre o W' → Ax x a' W' → K a' W') →
      assign.wpIn (F.inRound l) (n - 1 - 1) P (Exit.then K (fun _ _ _ => False)) { tmps := (ps.zip (encs x)).foldl (fun t (p, v) => t.setIfInBounds p v) a.tmps, defers := [] } W)
    (hbody : ∀ (l : Nat) (pre : List α) (x : α) (o : Option Nat) (a' : Act) (W : World), w.heap.size ≤ l → w.heap.size + 2 ≤ W.heap.size → (∃ r, W.heap[l]? = some (.loop r)) → I pre o W → Ax x a' W → pre.length < N →
      body.wpIn (F.inRound l) (n - 1 - 1) P (fun e _ W' => e = .normal ∧ KeepsFrom w.heap.size W W' ∧ Kp o W W' ∧ ∃ o', Fresh W o o' ∧ I (pre ++ [x]) o' W') a' W)
    (hdone : ∀ (D : Nat) (xs : List α) (o : Option Nat) (W : World), w.heap.size ≤ D → S xs → I xs o W → W.heap[D]? = some (.deferred (some [])) → Q .normal { a with defers := { target := .collected D, args := #[] } :: a.defers } W) :
    (Code.rangeFunc g ps assign body).wpIn F n P Q a w := by
  refine wpIn_rangeFunc ?_
  intro fn hfn
  rw [hro]
  -- the loop's record, ready or busy or done, and the place of what is deferred
  obtain ⟨rec, hrec⟩ : ∃ rec : LoopState → Loop, rec = fun st => { state := st, pending := none, fn, tmps := a.tmps, params := ps, assign, body, defers := w.heap.size } := ⟨_, rfl⟩
  obtain ⟨W1, hW1⟩ : ∃ W1, (w.alloc (.deferred (some []))).alloc (.loop (rec .ready)) = W1 := ⟨_, rfl⟩
  have hs1 : W1.heap.size = w.heap.size + 2 := by rw [← hW1]; simp
  have hL1 : W1.heap[w.heap.size + 1]? = some (.loop (rec .ready)) := by
    have h := World.alloc_heap_new (w.alloc (.deferred (some []))) (.loop (rec .ready))
    rw [World.size_alloc] at h
    rw [← hW1]
    exact h
  have hD1 : W1.heap[w.heap.size]? = some (.deferred (some [])) := by
    rw [← hW1]
    exact (Below.heap_alloc _ _ _ (by simp)).trans (World.alloc_heap_new w _)
  have hbw : Below w.heap.size w W1 := by rw [← hW1]; exact ((Below.refl _ w).alloc (Nat.le_refl _) _).alloc (by simp) _
  have hput : ∀ s q W l (o o' : Obj), I s q W → w.heap.size ≤ l → W.heap[l]? = some o → o.isCells = false → I s q (W.putObj l o') := fun s q W l o o' hs hl ho hc => hI s q W _ (some l) hs (grownBy_putObj' W l o') (fun r e => by
    cases e
    refine ⟨hl, fun e => ?_⟩
    obtain ⟨_, c, t, f, hq⟩ := hIo s q W l hs e
    rw [ho] at hq
    cases hq
    cases hc)
  have hI1 : I [] none W1 := hI [] none w W1 none h0 ⟨hbw.os, hbw.tape, hbw.output, hbw.size, fun k hk _ => hbw.block k hk⟩ (fun r e => by cases e)
  refine ⟨w.heap.size + 1, [{ target := .collected w.heap.size, args := #[] }], W1, { target := .fn (.func gf) lb, args := #[.func (.yield (w.heap.size + 1)) #[] #[]] }, W1, gf,
    #[.func (.yield (w.heap.size + 1)) #[] #[]] ++ lb, W1, ?_, ?_, ?_, ?_, fun _ => h1, ?_⟩
  · rw [← hW1, hrec]
    exact run_enterLoop_outer _ _ _ _ _
  · simp only [resolve, hg]
    simp [go_sem]
  · intro f' hf'
    simp [Target.leads] at hf'
    subst hf'
    exact hFg
  · simp [invoke, go_sem, eg]
  · -- a block below w1's size stays
    have stay : ∀ (k : Nat) (A B : World) (row : Option Nat) (o : Obj), k < w.heap.size + 2 → A.heap[k]? = some o → A.grownBy B row → (∀ r, row = some r → W1.heap.size ≤ r) → B.heap[k]? = some o := by
      intro k A B row o hk2 hA hgr hr
      refine (hgr.block k (Array.getElem?_eq_some_iff.1 hA).1 (fun e => ?_)).trans hA
      have := hr k e.symm
      omega
    refine (hseq (w.heap.size + 1) (fun pre o W => I pre o W ∧ W.heap[w.heap.size + 1]? = some (.loop (rec .ready)) ∧ W.heap[w.heap.size]? = some (.deferred (some [])) ∧ w.heap.size + 2 ≤ W.heap.size) W1 (hb0.trans (hbw.mono hb0.size))
      (fun s o A B row hs hgr hr => ⟨hI s o A B row hs.1 hgr (fun r e => ⟨by have := (hr r e).1; omega, (hr r e).2⟩), stay _ A B row _ (by omega) hs.2.1 hgr (fun r e => (hr r e).1), stay _ A B row _ (by omega) hs.2.2.1 hgr (fun r e => (hr r e).1), Nat.le_trans hs.2.2.2 hgr.size⟩) (fun s o A k hs e => ⟨by have := (hIo s o A k hs.1 e).1; omega, (hIo s o A k hs.1 e).2⟩) ?_ ⟨hI1, hL1, hD1, Nat.le_of_eq hs1.symm⟩).mono ?_
    · -- a round
      rintro pre x o W ⟨hi, hl, hd, hz⟩ hlen
      have hy := run_yield (P := P) (args := encs x) hl (by rw [hrec]; exact hps x)
      rw [hrec] at hy
      refine ⟨fn, _, assign, body, hy, roundIn_of_wpIn hfn (hassign _ pre x o W _ hz hi ?_)⟩
      clear hy
      intro a' V hkf hkp hiV hax
      have hlV := hkf.same _ _ (Nat.le_succ _) hl rfl
      have hdV := hkf.same _ _ (Nat.le_refl _) hd rfl
      have hltV := (Array.getElem?_eq_some_iff.1 hlV).1
      refine ⟨_, run_beginRound hlV (by rw [hrec]), ?_⟩
      have hl2 : (V.putObj (w.heap.size + 1) (.loop { rec .ready with state := .busy })).heap[w.heap.size + 1]? = some (.loop { rec .ready with state := .busy }) := World.putObj_heap_same hltV
      have hd2 : (V.putObj (w.heap.size + 1) (.loop { rec .ready with state := .busy })).heap[w.heap.size]? = some (.deferred (some [])) := (World.putObj_heap_other (by omega)).trans hdV
      have hpz : ∀ (U : World) (l : Nat) (o : Obj), (U.putObj l o).heap.size = U.heap.size := fun _ _ _ => by simp
      have hzV := hkf.size
      have hp2 : Kp o V (V.putObj (w.heap.size + 1) (.loop { rec .ready with state := .busy })) := hKb _ _ _ _ _ (by omega) hlV rfl
      refine wpIn_mono (hbody _ pre x o a' _ (Nat.le_succ _) (by rw [hpz]; omega) ⟨_, hl2⟩ (hput _ _ _ _ _ _ hiV (Nat.le_succ _) hlV rfl) (hAx x a' _ _ (some (w.heap.size + 1)) hax (grownBy_putObj' _ _ _) (fun r e => by cases e; exact ⟨Nat.le_succ _, _, hlV, rfl⟩)) hlen) ?_
      rintro e a3 W3 ⟨rfl, hk3, hp3, o', hf3, hi3⟩
      have hl3 := hk3.same _ _ (Nat.le_succ _) hl2 rfl
      have hd3 := hk3.same _ _ (Nat.le_refl _) hd2 rfl
      have hlt3 := (Array.getElem?_eq_some_iff.1 hl3).1
      have hz3 := hk3.size
      rw [hpz] at hz3
      have hr := run_endRound (P := P) none hl3
      rw [hrec] at hr
      refine ⟨_, _, hr, rfl, o', ?_, ⟨hput _ _ _ _ _ _ hi3 (Nat.le_succ _) hl3 rfl, ?_, (World.putObj_heap_other (by omega)).trans hd3, by rw [hpz]; omega⟩, hKt hkp (hKt (hKt hp2 hp3) (hKb _ _ _ _ _ (by omega) hl3 rfl))⟩
      · rcases hf3 with h | ⟨k, h, hk⟩
        · exact .inl h
        · exact .inr ⟨k, h, by rw [hpz] at hk; omega⟩
      · rw [hrec]
        exact World.putObj_heap_same hlt3
    · -- behind the iterator
      rintro e W2 ⟨⟨v, rfl⟩, xs, o, hS, hi, hl, hd, hz⟩
      have hr := run_endLoop (P := P) hl (by rw [hrec]; simp)
      rw [hrec] at hr
      exact ⟨none, _, hr, hdone _ xs o _ (Nat.le_refl _) hS (hput _ _ _ _ _ _ hi (Nat.le_succ _) hl rfl) ((World.putObj_heap_other (by omega)).trans hd)⟩
end

end Go.Proofs.YtmgaegaibglnhaaGreat
namespace Go.Proofs.YtmgaegaibglnhaaGreat
open Go.RowKit
open Go.Lib (strCells strCells_length strCells_oneCell)
attribute [local irreducible] Sha.compress Sha.blocks Sha.sha Sha.pad

/-- A record with bytes that hold it. -/
abbrev RB := {p : Rec × ByteArray // 41 + p.1.data.size ≤ p.2.size ∧ p.2.size ≤ 10000}
abbrev Stood := List RB
def bare (l : Stood) : List (Rec × ByteArray) := l.map (·.1)
def JSt.over (st : JSt) : List (Rec × ByteArray) → JSt
  | [] => st
  | p :: l => (st.pass p.1 p.2).over l
theorem over_snoc (st : JSt) (l : List (Rec × ByteArray)) (p : Rec × ByteArray) : st.over (l ++ [p]) = (st.over l).pass p.1 p.2 := by
  induction l generalizing st with
  | nil => rfl
  | cons q l ih => exact ih _
theorem stand_over {xs : List ByteArray} {st st' : JSt} {l : List (Rec × ByteArray)} (h : stand xs st l = some st') : st' = st.over l := by
  induction l generalizing st with
  | nil => exact (Option.some.inj h).symm
  | cons q l ih =>
    unfold stand at h
    by_cases hq : nextS xs st = some q
    · rw [if_pos hq] at h
      exact ih h
    · rw [if_neg hq] at h
      cases h
theorem bare_snoc (l : Stood) (x : RB) : bare (l ++ [x]) = bare l ++ [x.1] := by unfold bare; rw [List.map_append]; rfl
theorem over_fine (l : Stood) : (JSt.start.over (bare l)).prev.length = 32 ∧ (JSt.start.over (bare l)).seq = l.length ∧ (JSt.start.over (bare l)).used ≤ l.length * 200 := by
  suffices h : ∀ (l : Stood) (st : JSt), st.prev.length = 32 → (st.over (bare l)).prev.length = 32 ∧ (st.over (bare l)).seq = st.seq + l.length ∧ (st.over (bare l)).used ≤ st.used + l.length * 200 by
    have h1 := h l JSt.start rfl
    refine ⟨h1.1, by rw [h1.2.1]; exact Nat.zero_add _, by have h2 := h1.2.2; have h3 : JSt.start.used = 0 := rfl; omega⟩
  intro l
  induction l with
  | nil => intro st h; exact ⟨h, rfl, Nat.le_add_right _ _⟩
  | cons x l ih =>
    intro st h
    obtain ⟨⟨r, b⟩, hx1, hx2⟩ := x
    have h1 : (st.pass r b).prev.length = 32 := by
      show ((b.data.toList.drop (9 + r.data.size)).take 32).length = 32
      rw [List.length_take, List.length_drop, data_length]
      have : 41 + r.data.size ≤ b.size := hx1
      omega
    obtain ⟨a1, a2, a3⟩ := ih (st.pass r b) h1
    have e : st.over (bare (⟨(r, b), hx1, hx2⟩ :: l)) = (st.pass r b).over (bare l) := rfl
    rw [e]
    have e2 : (st.pass r b).seq = st.seq + 1 := rfl
    have e3 : (st.pass r b).used = st.used + b.size / 64 := rfl
    have hx2 : b.size ≤ 10000 := hx2
    rw [List.length_cons]
    exact ⟨a1, by omega, by omega⟩
theorem ba_ne {s t : ByteArray} (h : s ≠ t) : (s.toList == t.toList) = false := beq_eq_false_iff_ne.2 fun e => h (bytes_ext (by rw [← Lib.toList_data, ← Lib.toList_data, e]))
/-- What a body leaves alone: blocks of cells but its own, and a map's block b. -/
def KeepM (b : Nat) (X : Nat → Prop) (A B : World) : Prop := KeepX X A B ∧ ∀ o, A.heap[b]? = some o → B.heap[b]? = some o
section
variable {b : Nat} {X : Nat → Prop} {A B C : World}
theorem KeepM.refl (b : Nat) (X : Nat → Prop) (A : World) : KeepM b X A A := ⟨KeepX.refl _ _, fun _ h => h⟩
theorem KeepM.trans (h : KeepM b X A B) (k : KeepM b X B C) : KeepM b X A C := ⟨h.1.trans k.1, fun o ho => k.2 o (h.2 o ho)⟩
theorem KeepM.put (W : World) (l : Nat) (o o' : Obj) (hl : W.heap[l]? = some o) (ho : o.isCells = false) (hb : b ≠ l) : KeepM b X W (W.putObj l o') :=
  ⟨KeepX.put W l o o' hl ho, fun p hp => by rw [World.putObj_heap_other hb]; exact hp⟩
theorem KeepM.below (h : Below A.heap.size A B) : KeepM b X A B := ⟨KeepX.below h, fun _ ho => (h.block b (Array.getElem?_eq_some_iff.1 ho).1).trans ho⟩
theorem KeepM.grown {a : Nat} (ha : X a) (hab : b ≠ a) (h : A.grownBy B (some a)) : KeepM b X A B := ⟨KeepX.grown ha h, fun _ ho => (h.block b (Array.getElem?_eq_some_iff.1 ho).1 (fun e => hab (Option.some.inj e))).trans ho⟩
theorem KeepM.turns {g : Nat} (hg : X g) (hbg : b ≠ g) (h : Turns A B g none) : KeepM b X A B :=
  ⟨⟨h.size, fun k o hk _ hx => (h.block k (Array.getElem?_eq_some_iff.1 hk).1 (fun e => hx (e ▸ hg)) (fun e => by cases e)).trans hk⟩, fun _ ho => (h.block b (Array.getElem?_eq_some_iff.1 ho).1 hbg (fun e => by cases e)).trans ho⟩
theorem DiskAt.keptM {d r n : Nat} {D : Dk} (h : DiskAt A d r b n D) (k : KeepM b X A B) (hd : ¬ X d) (hr : ¬ X r) : DiskAt B d r b n D :=
  ⟨k.1.holds h.own hd, k.1.holds h.row hr, h.map.block ((show B.heap[b]? = A.heap[b]? from by
    obtain ⟨o, ho⟩ : ∃ o, A.heap[b]? = some o := ⟨_, Array.getElem?_eq_getElem h.map.lt⟩
    rw [ho]
    exact k.2 o ho)), h.fine, h.most, h.dr⟩
end
theorem turns_grown {A B : World} {g : Nat} (h : Turns A B g none) : A.grownBy B (some g) := ⟨h.os, h.tape, h.output, h.size, fun k hk hne => h.block k hk (fun e => hne (by rw [e])) (fun e => by cases e)⟩

theorem rec_there {W : World} {q : Nat} (hq : W.heap.size = q) (R : Rec) : (W.alloc (.cells (recV rec0).toArray 37)).there q 0 (recV R).toArray.size := by
  subst hq
  exact (Holds.new W 37 (recV rec0).toArray).there 0 _ (Nat.le_refl _)
theorem rec_new {W V : World} {q : Nat} {R : Rec} (hq : W.heap.size = q) (e : (W.alloc (.cells (recV rec0).toArray 37)).setCells q 0 (recV R) = V) : Holds V q 37 (recV R) ∧ Below W.heap.size W V := by
  subst hq
  exact rec_put (Holds.new W 37 (recV rec0).toArray) ((Below.refl _ _).alloc (Nat.le_refl _) _) (Nat.le_refl _) e

/-- How far the journal in block g has come. -/
def usedOf (g : Nat) (w : World) : Nat := match w.cell? ⟨g, 34, none⟩ with
  | some (.int _ u) => u.toNat
  | _ => 0
theorem usedOf_is {g d : Nat} {w : World} {p : List UInt8} {s : Int} {u : Nat} (hp : p.length = 32) (h : Holds w g 101 (jCells d p s (u : Int))) : usedOf g w = u := by
  unfold usedOf
  rw [(h.cell 34).trans (jCells_used hp)]
  exact Int.toNat_natCast u
/-- An empty journal on a disk. -/
theorem jRange {g d : Nat} {w : World} {p : List UInt8} {s u : Int} (_ : p.length = 32) (h : Holds w g 101 (jCells d p s u)) : w.rangeAt g 1 (byteCells p) := h.range 1 _ fun j hj => by
  unfold jCells
  rw [Nat.add_comm, List.getElem?_cons_succ, List.getElem?_append_left hj]
theorem jSize {d : Nat} {p : List UInt8} {s u : Int} (hp : p.length = 32) : (Tryz.prog.info? 101).map (·.size) = some (jCells d p s u).toArray.size := by
  rw [List.size_toArray, jCells_len hp]
  kernel_rfl
theorem jOne {d : Nat} {p : List UInt8} {s u : Int} : (jCells d p s u).toArray.all (·.oneCell') = true := all_oneCell_toArray fun v hv => by
  unfold jCells at hv
  rcases List.mem_cons.1 hv with rfl | hv
  · rfl
  rcases List.mem_append.1 hv with hv | hv
  · exact byteCells_one p v hv
  · simp only [List.mem_cons, List.not_mem_nil, or_false] at hv
    rcases hv with rfl | rfl <;> rfl
def zeroH : List UInt8 := List.replicate 32 0
def jZero : List Value := .pointer none :: (byteCells zeroH ++ [.int .i64 0, .int .i64 0])

/-- What a body with a row in block o leaves alone. -/
def KeepO (b : Nat) (X : Nat → Prop) (o : Option Nat) (A B : World) : Prop := KeepM b (fun k => X k ∨ o = some k) A B
structure ItSt (J : Stood → Option Nat → World → Prop) (W : World) (b0 g d r b n : Nat) (D : Dk) (pre : Stood) (o : Option Nat) (st : JSt) (W1 : World) : Prop where
  j : J pre o W1
  sz : W.heap.size ≤ W1.heap.size
  c : Holds W1 b0 23 [.pointer (some ⟨d, 0, none⟩)]
  at_ : JAt W1 g d st
  dk : DiskAt W1 d r b n D
  no : o ≠ some g
section
variable {J : Stood → Option Nat → World → Prop} {X : Nat → Prop} {W W1 W2 : World} {b0 g d r b n : Nat} {D : Dk} {pre : Stood} {o o2 : Option Nat} {st st2 : JSt} {x : RB}
theorem ItSt.below (h : ItSt J W b0 g d r b n D pre o st W1) (hJ : ∀ s o A B row, J s o A → A.grownBy B row → (∀ r, row = some r → W.heap.size ≤ r ∧ o ≠ some r) → J s o B) (hb : Below W1.heap.size W1 W2) : ItSt J W b0 g d r b n D pre o st W2 :=
  ⟨hJ pre o W1 W2 none h.j ⟨hb.os, hb.tape, hb.output, hb.size, fun k hk _ => hb.block k hk⟩ (fun r e => by cases e), Nat.le_trans h.sz hb.size, h.c.below hb h.c.lt, Holds.below h.at_ hb (Holds.lt h.at_), h.dk.on hb, h.no⟩
theorem ItSt.yielded (h : ItSt J W b0 g d r b n D pre o st W1) (hX : ∀ k, X k → k < W.heap.size) (hO : ∀ k, o = some k → W.heap.size ≤ k) (hg : W.heap.size ≤ g) (hl : b0 < W.heap.size ∧ d < W.heap.size ∧ r < W.heap.size ∧ b < W.heap.size) (h0 : ¬ X b0) (hd : ¬ X d) (hr : ¬ X r) (hj : J (pre ++ [x]) o2 W2) (hf : Fresh W1 o o2) (hk : KeepO b X o W1 W2) : ItSt J W b0 g d r b n D (pre ++ [x]) o2 st W2 := by
  have hn : ∀ k, k < W.heap.size → ¬ X k → ¬ (X k ∨ o = some k) := fun k hk hx h => h.elim hx (fun e => by have := hO k e; omega)
  refine ⟨hj, Nat.le_trans h.sz hk.1.1, hk.1.holds h.c (hn _ hl.1 h0), hk.1.holds h.at_ (fun hx => hx.elim (fun hx => by have := hX g hx; omega) h.no), h.dk.keptM hk (hn _ hl.2.1 hd) (hn _ hl.2.2.1 hr), ?_⟩
  rcases hf with e | ⟨k, e, hk⟩
  · rw [e]; exact h.no
  · have := Holds.lt h.at_
    rw [e]
    intro e2
    have := Option.some.inj e2
    omega
theorem ItSt.passed (h : ItSt J W b0 g d r b n D pre o st W1) (hJ : ∀ s o A B row, J s o A → A.grownBy B row → (∀ r, row = some r → W.heap.size ≤ r ∧ o ≠ some r) → J s o B) (hg : W.heap.size ≤ g) (hl : b0 < W.heap.size ∧ d < W.heap.size ∧ r < W.heap.size ∧ b < W.heap.size) (hn : JAt W2 g d st2) (ht : Turns W1 W2 g none) : ItSt J W b0 g d r b n D pre o st2 W2 :=
  ⟨hJ pre o W1 W2 (some g) h.j (turns_grown ht) (fun q e => by cases e; exact ⟨hg, h.no⟩), Nat.le_trans h.sz ht.size,
    ht.holds h.c (by omega) (fun e => by cases e), hn, h.dk.turned ht ⟨by omega, by omega, by omega⟩ ⟨fun e => (by cases e), fun e => (by cases e), fun e => (by cases e)⟩, h.no⟩
end

set_option maxRecDepth 100000 in
set_option maxHeartbeats 4000000 in
theorem records_all (m : Nat) (X : Nat → Prop) (b0 d r b n : Nat) (D : Dk) (h0 : ¬ X b0) (hd : ¬ X d) (hr : ¬ X r) (w : World) (hX : ∀ k, X k → k < w.heap.size) (hc : Holds w b0 23 [.pointer (some ⟨d, 0, none⟩)]) (hD : DiskAt w d r b n D) :
    SeqShare Fence.wide (m + 1) Tryz.prog 149 #[.pointer (some ⟨b0, 0, none⟩)] (fun p : RB => #[.agg (recV p.1.1).toArray, .string p.1.2]) (KeepO b X) (fun l => Stands D.xs (bare l)) n w := fun l J W hW hJ hJo hY hj0 => by
  have hc1 := hid (hc.below hW hc.lt)
  have hD1 := hid (hD.below hW hD.lt)
  have hlt0 := hid (show b0 < W.heap.size ∧ d < W.heap.size ∧ r < W.heap.size ∧ b < W.heap.size from ⟨hc1.out.lt, hD1.out.lt⟩)
  have hXw := hid (fun k hx => Nat.lt_of_lt_of_le (hX k hx) hW.size)
  have hYy := hid hY
  have hJj := hid hJ
  have hJo' := hid hJo
  have hsec := hid hD.fine.secs
  have hxn := hid hD.fine.len
  have hn256 := hD.most
  clear hc hD hX hY hJ hJo
  refine callsIn_of_wp Tryz.func149 rfl trivial ?_ rfl
  simp only [Tryz.ntmps149, List.size_toArray, List.length_cons, List.length_nil, Nat.reduceAdd, Nat.reduceSub, Array.replicate_succ, Array.replicate_zero, List.push_toArray, List.append_toArray, List.nil_append, List.cons_append]
  have c0 := hc1.out.cK 0 _ rfl
  obtain ⟨g, hg⟩ : ∃ g, W.heap.size = g := ⟨_, rfl⟩
  obtain ⟨W0, hW0⟩ : ∃ V, W.alloc (.cells jZero.toArray 101) = V := ⟨_, rfl⟩
  have hz0 := hid (show Holds W0 g 101 jZero from by rw [← hW0, ← hg]; exact Holds.new W 101 jZero.toArray)
  have hbz := hid (show Below W.heap.size W W0 from by rw [← hW0]; exact (Below.refl _ _).alloc (Nat.le_refl _) _)
  have hW0' := hid hW0
  have hgw := hid hg
  have hz32 : zeroH.length = 32 := rfl
  have hzl : (jCells d zeroH 0 0).length = jZero.length := rfl
  clear hW0 hg
  gi_wp2_with (first
    | ((with_reducible refine at_slotIn (some 8) ?_); refine wpListIn_run rfl (fun c e => by cases e) (by kernel_rfl) (.agg (jCells d zeroH 0 0).toArray) W (by kernel_rfl) ?_)
    | ((with_reducible refine at_slotIn (some 3) ?_); refine wpListIn_run rfl (fun c e => by cases e) (by kernel_rfl) (.pointer (some ⟨g, 0, none⟩)) (W.alloc (.cells jZero.toArray 101)) (by rw [← hgw.out]; kernel_rfl) ?_; rw [hW0'.out])
    | ((with_reducible refine at_slotIn none ?_); refine wpListIn_store_mid rfl 101 (.tmp 3) (.tmp 8) rfl g 0 (jCells d zeroH 0 0).toArray rfl rfl (by exact hz0.out.there 0 _ (by rw [List.size_toArray, hzl]; exact Nat.le_of_eq (Nat.zero_add _))) (by exact jSize hz32) (by exact jOne) ?_; generalize hW1 : World.setCells _ _ _ _ = W1)
    | fail)
  have hb : Below W.heap.size W W1 := below_store hbz.out (Nat.le_of_eq hgw.out) hW1
  have hS1 := hid (show ItSt J W b0 g d r b n D [] none JSt.start W1 from ⟨hJj.out [] none W W1 none hj0 ⟨hb.os, hb.tape, hb.output, hb.size, fun k hk _ => hb.block k hk⟩ (fun r e => by cases e), hb.size, hc1.out.below hb hc1.out.lt, by
    have h1 := hz0.out.put 0 (jCells d zeroH 0 0) (by rw [hzl]; exact Nat.le_of_eq (Nat.zero_add _))
    rw [put_all _ _ hzl, hW1] at h1
    exact h1, hD1.out.on hb, fun e => by cases e⟩)
  have hgW : Hid (W.heap.size ≤ g) := hid (Nat.le_of_eq hgw.out)
  clear hb hW1 c0 hz0 hbz hW0' hj0 hzl hz32
  gi_loopw [] (fun wr => ∃ (pre : Stood) (o : Option Nat) (st : JSt), ItSt J W b0 g d r b n D pre o st wr ∧ stand D.xs JSt.start (bare pre) = some st ∧ st.prev.length = 32 ∧ st.used ≤ n ∧ pre.length = st.seq ∧ st.seq ≤ st.used) (fun wr => n - usedOf g wr)
  case atStart => exact ⟨[], none, JSt.start, hS1.out, rfl, rfl, Nat.zero_le _, rfl, Nat.le_refl _⟩
  case round =>
    obtain ⟨pre, o, st, hst, hstand, hpl, hun, hps, hsu⟩ := hrel
    obtain ⟨Wa, rfl⟩ : ∃ V, V = wr := ⟨_, rfl⟩
    have hSa := hid hst
    have hsd := hid hstand
    have hpp := hid hpl
    have hus := hid (usedOf_is hpl hst.at_)
    have hnn := hid (And.intro hun (And.intro hps hsu))
    obtain ⟨R, hR⟩ : ∃ R, guessS D.xs st.used = R := ⟨_, rfl⟩
    obtain ⟨⟨by_, ec⟩, hA⟩ : ∃ a, sealAns st.prev (st.seq : Int) R = a := ⟨_, rfl⟩
    have hgu := hid (fun W hd => guess_any st.used d r b n D W hd (by omega))
    have hse := hid (fun W => seal_any st.prev hpl (st.seq : Int) R W)
    rw [hR] at hgu
    rw [hA] at hse
    have hR' := hid hR
    have hA' := hid hA
    have c0 := hst.c.cK 0 _ rfl
    have c34 := (hst.at_.cell 34).trans (jCells_used hpl)
    clear hst hstand hpl hun hps hsu hR hA
    gi_wp2_with fail
    refine ⟨trivial, (callsIn_wide.2 (hgu.out _ hSa.out.dk)).mono ?_⟩
    rintro e Wb ⟨rfl, hb⟩
    have hSb := hid (hSa.out.below hJj.out hb)
    clear hb c0 c34 hgu
    obtain ⟨q, hq⟩ : ∃ q, Wb.heap.size = q := ⟨_, rfl⟩
    have hqg : W.heap.size ≤ q := by rw [← hq]; exact hSb.out.sz
    have hq' := hid hq
    have hoq := hid (show ∀ k, o = some k → k < q from fun k e => by
      obtain ⟨_, c, t, f, hc⟩ := hJo'.out pre o Wb k hSb.out.j e
      have := (Array.getElem?_eq_some_iff.1 hc).1
      omega)
    have hoW := hid (show ∀ k, o = some k → W.heap.size ≤ k from fun k e => (hJo'.out pre o Wb k hSb.out.j e).1)
    clear hq
    gi_wp2_with (first
      | ((with_reducible refine at_slotIn (some 4) ?_); refine wpListIn_run rfl (fun c e => by cases e) (by kernel_rfl) (.pointer (some ⟨q, 0, none⟩)) (Wb.alloc (.cells (recV rec0).toArray 37)) (by rw [← hq'.out]; kernel_rfl) ?_)
      | ((with_reducible refine at_slotIn none ?_); refine wpListIn_store_mid rfl 37 (.tmp 4) (.tmp 12) rfl q 0 (recV R).toArray rfl rfl (by exact rec_there hq'.out R) (by exact recSize R) (by exact recOne R) ?_; generalize hWc : World.setCells _ _ _ _ = Wc; have hh := rec_new hq'.out hWc; have hSc := hid (hSb.out.below hJj.out hh.2); have hRc := hid hh.1; clear hh hWc hSb; have c33 := (hSc.out.at_.cell 33).trans (jCells_seq hpp.out); have c34 := (hSc.out.at_.cell 34).trans (jCells_used hpp.out))
      | ((with_reducible refine at_slotIn (some 15) ?_); refine wpListIn_load_mid rfl 55 (.tmp 14) rfl g 1 rfl (byteCells st.prev) _ (by exact jRange hpp.out hSc.out.at_) Tryz.underlying55 rfl (by exact (hash_cells st.prev hpp.out).size') ?_)
      | ((with_reducible refine at_slotIn (some 18) ?_); refine wpListIn_load_mid rfl 37 (.tmp 4) rfl q 0 rfl (recV R) _ (by exact h_all hRc.out) Tryz.underlying37 rfl (by exact recSizeL R) ?_)
      | fail)
    refine ⟨trivial, (callsIn_wide.2 (hse.out _)).mono ?_⟩
    rintro e Wd ⟨rfl, hb⟩
    have hSd := hid (hSc.out.below hJj.out hb)
    have hRd := hid (hRc.out.below hb hRc.out.lt)
    clear hb c33 c34 hse hSc hRc
    have c0 := hSd.out.c.cK 0 _ rfl
    have c34 := (hSd.out.at_.cell 34).trans (jCells_used hpp.out)
    by_cases he : ec = 0
    · subst he
      have hby : sealMay (st.seq : Int) R = true ∧ by_ = recBytes st.prev st.seq R.kind.toNat R.data := by
        have h := hA'.out
        unfold sealAns at h
        cases hm : sealMay (st.seq : Int) R with
        | false => rw [hm] at h; cases h
        | true =>
          rw [hm] at h
          exact ⟨rfl, (congrArg Prod.fst h).symm⟩
      have hbz : by_.size = wholes (41 + R.data.size) * 64 := by rw [hby.2, recBytes_size]
      have hd1024 := (sealMay_iff.1 hby.1).2.2.2.2
      have hw1 := wholes_ge (41 + R.data.size)
      have hw2 := wholes_lt (41 + R.data.size)
      obtain ⟨k, hk⟩ : ∃ k, by_.size / 64 = k := ⟨_, rfl⟩
      have hkw : k = wholes (41 + R.data.size) := by rw [← hk, hbz]; exact Nat.mul_div_cancel _ (by decide)
      have m1 : IntKind.i64.wrap ((by_.size : Int) / 64) = (k : Int) := by rw [IntWalk.i64_in _ (by omega)]; omega
      have hrd := hid (fun V hd => read_any st.used k d r b n D V hd (by omega) (by have := hnn.out.1; omega))
      obtain ⟨s, hs⟩ : ∃ s, readS D.xs st.used k = s := ⟨_, rfl⟩
      rw [hs] at hrd
      by_cases hsb : s = by_
      · have hnx := hid (show nextS D.xs st = some (R, by_) from by
          unfold nextS
          rw [hR'.out, hA'.out]
          refine if_pos ⟨rfl, ?_⟩
          show readS D.xs st.used (by_.size / 64) = by_
          rw [hk, hs, hsb])
        have hin := (nextS_some hnx.out hsec.out).2.2.2.2
        have hin : st.used + k ≤ n := by rw [hkw, ← hxn.out]; exact hin
        have hpass := hid (fun V hj => pass_any g d st hpp.out R by_ (by omega) (by have := hnn.out; omega) (by have := hnn.out.1; omega) (by omega) V hj)
        have hk1 : 1 ≤ k := by omega
        have hn1 := hid (And.intro hin (And.intro hk1 hk))
        have hb41 := hid (show 41 + R.data.size ≤ by_.size from by omega)
        have hb10 := hid (show by_.size ≤ 10000 from by omega)
        subst hsb
        clear hs hby hbz hd1024 hw1 hw2 hk hkw hin hk1
        gi_wp2_with fail
        refine ⟨trivial, (callsIn_wide.2 (hrd.out _ hSd.out.dk)).mono ?_⟩
        rintro e We ⟨rfl, hb⟩
        have hSe := hid (hSd.out.below hJj.out hb)
        have hRe := hid (hRd.out.below hb hRd.out.lt)
        clear hb c0 c34 hrd hSd hRd
        have hx : 41 + R.data.size ≤ s.size ∧ s.size ≤ 10000 := ⟨hb41.out, hb10.out⟩
        obtain ⟨fn1, tmps1, assign1, body1, hy1, hR1⟩ : YieldAt Fence.wide m Tryz.prog l #[.agg #[.int .i64 R.kind, .string R.data], .string s] We (fun e W' => e = .returned (.bool true) ∧ ∃ o', Fresh We o o' ∧ J (pre ++ [(⟨(R, s), hx⟩ : RB)]) o' W' ∧ KeepO b X o We W') := hYy.out pre (⟨(R, s), hx⟩ : RB) o We hSe.out.j (by have := hnn.out; have := hn1.out; omega)
        have r0 := hRe.out.cK 0 _ rfl
        have r1 := hRe.out.cK 1 _ rfl
        gi_wp2_with fail
        refine hR1.mono ?_
        rintro e Wf ⟨rfl, o2, hF5, hJ5, hK5⟩
        have hSf := hid (hSe.out.yielded hXw.out hoW.out hgW.out hlt0.out h0 hd hr hJ5 hF5 hK5)
        have hRf := hid (hK5.1.holds hRe.out (fun hx => hx.elim (fun hx => by have := hXw.out _ hx; omega) (fun e => by have := hoq.out q e; omega)))
        clear hJ5 hF5 hK5 hR1 hy1 hSe hRe r0 r1
        gi_wp2_with (first
          | ((with_reducible refine at_slotIn (some 42) ?_); refine wpListIn_load_mid rfl 37 (.tmp 4) rfl q 0 rfl (recV R) _ (by exact h_all hRf.out) Tryz.underlying37 rfl (by exact recSizeL R) ?_)
          | fail)
        refine ⟨trivial, (callsIn_wide.2 (hpass.out _ hSf.out.at_)).mono ?_⟩
        rintro e Wg ⟨rfl, hjn, htn⟩
        have hSg := hid (hSf.out.passed hJj.out hgW.out hlt0.out hjn htn)
        clear hjn htn hSf hRf
        have hpl2 : (st.pass R s).prev.length = 32 := by
          show ((s.data.toList.drop (9 + R.data.size)).take 32).length = 32
          rw [List.length_take, List.length_drop, data_length]
          have := hb41.out
          omega
        have hu2 : (st.pass R s).used = st.used + k := by show st.used + s.size / 64 = _; rw [hn1.out.2.2]
        gi_wp2_with fail
        go_roundw
        case rel => exact ⟨pre ++ [(⟨(R, s), hx⟩ : RB)], o2, st.pass R s, hSg.out, by rw [bare_snoc]; exact stand_snoc hsd.out hnx.out, hpl2, by rw [hu2]; exact hn1.out.1, by rw [List.length_append, hnn.out.2.1]; rfl, by rw [hu2]; show st.seq + 1 ≤ _; have := hnn.out; have := hn1.out; omega⟩
        case measure =>
          have h9 := usedOf_is hpl2 hSg.out.at_
          rw [hu2] at h9
          rw [h9, hus.out]
          have := hn1.out
          omega
      · have hnx := hid (show nextS D.xs st = none from by
          unfold nextS
          rw [hR'.out, hA'.out]
          refine if_neg (fun hh => ?_)
          have h2 : readS D.xs st.used (by_.size / 64) = by_ := hh.2
          rw [hk, hs] at h2
          exact hsb h2)
        have e1 := ba_ne hsb
        clear hs hby hbz hd1024 hw1 hw2 hk hkw
        gi_wp2_with fail
        refine ⟨trivial, (callsIn_wide.2 (hrd.out _ hSd.out.dk)).mono ?_⟩
        rintro e We ⟨rfl, hb⟩
        have hSe := hid (hSd.out.below hJj.out hb)
        clear hb c0 c34 hrd hSd hRd
        gi_wp2_with fail
        refine ⟨fun _ h => (by cases h), ?_⟩
        gi_wp2_with fail
        refine bodyPost_ret (results_none rfl _ _ _) rfl ?_
        exact ⟨⟨_, rfl⟩, pre, o, ⟨st, hsd.out, hnx.out⟩, hSe.out.j⟩
    · have hnx := hid (show nextS D.xs st = none from by
        unfold nextS
        rw [hR'.out, hA'.out]
        exact if_neg (fun hh => he hh.1))
      have e1 : (ec == 0) = false := beq_eq_false_iff_ne.2 he
      have e2 : (ec != 0) = true := by rw [bne, e1]; rfl
      gi_wp2_with fail
      refine ⟨trivial, ?_⟩
      gi_wp2_with fail
      refine ⟨fun _ h => (by cases h), ?_⟩
      gi_wp2_with fail
      refine bodyPost_ret (results_none rfl _ _ _) rfl ?_
      exact ⟨⟨_, rfl⟩, pre, o, ⟨st, hsd.out, hnx.out⟩, hSd.out.j⟩


end Go.Proofs.YtmgaegaibglnhaaGreat
namespace Go.Proofs.YtmgaegaibglnhaaGreat
open Go.RowKit

section
variable {n : Nat} {P : Program} {ops : Array Oper} {rest : List Oper} {o : Oper} {a : Act} {w : World} {Q : Exit → Act → World → Prop} {K : Act → World → Prop}
theorem oper_wide (h : o.wp P a w K Q) : o.wpIn Fence.wide n P a w K Q := by
  unfold Oper.wpIn
  unfold Oper.wp at h
  refine ⟨fun _ _ => trivial, ?_⟩
  show o.uponIn Fence.wide n P a K Q ((execOp a.eval o).run P w)
  generalize (execOp a.eval o).run P w = r at h ⊢
  cases r with
  | ok x w' =>
    cases x with
    | enter f args => exact ⟨(fun e => by cases e), callsIn_wide.2 h⟩
    | row row args => exact ⟨(fun e => by cases e), fun c cs _ => let ⟨v, w2, r, s⟩ := h c cs; ⟨v, w2, r, stepsIn_wide.2 s⟩⟩
    | round l f tmps assign body => exact h.elim
    | _ => exact h
  | halt x w' => cases x <;> exact h
theorem wpListIn_of (hg : o.guard = none) (h : ∀ K, (∀ a' w', wpListIn Fence.wide n P ops Q rest a' w' → K a' w') → o.wp P a w K Q) : wpListIn Fence.wide n P ops Q (o :: rest) a w :=
  wpListIn_plain hg fun K hK => oper_wide (h K hK)

theorem wp_build_one (t e : TypeId) (x : Operand) (ho : o.op = .buildSlice t 1 #[(0, x)]) (i : TypeInfo) (z : Value) (ht : P.underlying t = some (.slice e)) (hi : P.info? e = some i) (hz : i.zero = some z)
    (H : Array Value) (hx : a.eval x = .agg H) (hn : i.size = H.size) (h0 : 0 < H.size) (h1 : H.size ≤ 1000000) (h : K (a.put o.dst (.slice (some ⟨w.heap.size, 0, none⟩) 1 1)) (w.alloc (.cells H e))) : o.wp P a w K Q := by
  have hr := run_buildSlice_one (w := w) t e i z ht hi hz H hn h0 h1
  unfold Oper.wp execOp
  simp only [ho, List.map_toArray, List.map_cons, List.map_nil, hx, Sem.run_bind, hr, Result.andThen_ok, Sem.run_pure]
  exact h

end

/-- append of cells onto a row of one's own: where the new row lies, too. -/
theorem run_append_fresh {P : Program} (w : World) (base : Nat) (t ty e : TypeId) (i : TypeInfo) (z : Value) (ht : P.underlying t = some (.slice e)) (hi : P.info? e = some i) (hz : i.zero = some z)
    (hzs : z.cells.size = i.size) (hsz : 0 < i.size) (A : Option Addr) (n c0 : Nat) (xs : List Value) (hown : w.ownsRow base e i.size (.slice A n c0) n xs)
    (a : Addr) (m c : Nat) (news : List Value) (hm : 0 < m) (hl : news.length = m * i.size) (hnews : ∀ j u, news[j]? = some u → w.cell? (a.add j) = some u) (h1 : ∀ u ∈ news, u.oneCell' = true)
    (h63 : n + m ≤ 1000000000000) (hbytes : (n + m) * i.bytes ≤ 140737488355328) (hbase : base ≤ w.heap.size) :
    ∃ A' c' w', (Builtin.append_ #[t, t] ty #[.slice A n c0, .slice (some a) m c]).run P w = .ok (.slice A' (n + m) c') w' ∧ w'.ownsRow base e i.size (.slice A' (n + m) c') (n + m) (xs ++ news) ∧ w.grownBy w' (Value.slice A n c0).ownBlock ∧
      Fresh w (Value.slice A n c0).ownBlock (Value.slice A' (n + m) c').ownBlock := by
  have h63' : n + m ≤ maxLen := by unfold maxLen; omega
  obtain ⟨v', w', hrun, hown', hg, _⟩ := run_append_own (P := P) w base t ty e i z i.size i.bytes ht hi hz rfl rfl hzs hsz _ n xs hown a m c news hl hnews h1 h63' hbytes hbase
  obtain ⟨A', c', rfl⟩ : ∃ A' c', v' = .slice A' (n + m) c' := by
    rcases hown'.2 with ⟨_, h0⟩ | ⟨g, cap, cur, hv, _⟩
    · omega
    · exact ⟨_, _, hv⟩
  refine ⟨A', c', w', hrun, hown', hg, ?_⟩
  rcases hown.2 with ⟨hv, h0⟩ | ⟨g, cap, cur, hv, hb, hq, hnc, hcm, hcs, htake⟩
  · right
    subst h0
    have hx : xs = [] := List.eq_nil_of_length_eq_zero (by simpa using hown.1)
    subst hx
    have hr := run_append_nil (P := P) w t ty e i z ht hi hz a m c news hl hnews (by omega) (by omega) (by have hb := hbytes; simp only [Nat.zero_add] at hb; omega)
    rw [hv, hr] at hrun
    injection hrun with h1 h2
    rw [← h1]
    exact ⟨_, rfl, Nat.le_refl _⟩
  · injection hv with e1 _ e2
    subst e1 e2
    by_cases hroom : n + m ≤ c0
    · left
      have hfit : n * i.size + news.length ≤ cur.size := by rw [hl, hcs, ← Nat.add_mul]; exact Nat.mul_le_mul_right _ hroom
      have hr := run_append_room (P := P) w t ty e i ht hi g n c0 cur hq a m c news hl hnews h1 hroom hfit
      rw [hr] at hrun
      injection hrun with h1 h2
      rw [← h1]
      rfl
    · right
      have holds : ∀ j u, xs[j]? = some u → w.cell? ((⟨g, 0, none⟩ : Addr).add j) = some u := hown.cells (g := g) rfl
      have hr := run_append_grow (P := P) w t ty e i z ht hi hz ⟨g, 0, none⟩ n c0 xs hown.1 holds a m c news hl hnews (by omega) (by omega) (growslice_fits (by omega) hbytes)
      rw [hr] at hrun
      injection hrun with h1 h2
      rw [← h1]
      exact ⟨_, rfl, Nat.le_refl _⟩

end Go.Proofs.YtmgaegaibglnhaaGreat
namespace Go.Proofs.YtmgaegaibglnhaaGreat
open Go.RowKit
open Go.Lib (strCells strCells_length strCells_oneCell)
attribute [local irreducible] Sha.compress Sha.blocks Sha.sha Sha.pad
attribute [local go_sem] Oper.semAt_some

theorem Tryz.infoRec : (Tryz.prog.info? 37).map (fun i => (i.zero, i.size, i.bytes)) = some (some (.agg (recV rec0).toArray), 2, 24) := by kernel_rfl
/-- Records' cells, one behind the other. -/
def recsV (l : Stood) : List Value := l.flatMap fun x => recV x.1.1
theorem recsV_snoc (l : Stood) (x : RB) : recsV (l ++ [x]) = recsV l ++ recV x.1.1 := by unfold recsV; rw [List.flatMap_append, List.flatMap_cons, List.flatMap_nil, List.append_nil]
theorem recV_one (r : Rec) : ∀ u ∈ recV r, u.oneCell' = true := fun u hu => by
  simp only [recV, List.mem_cons, List.not_mem_nil, or_false] at hu
  rcases hu with rfl | rfl <;> rfl
section
variable {n l : Nat} {ops : Array Oper} {rest : List Oper} {a : Act} {w : World} {Q : Exit → Act → World → Prop}
theorem wpListIn_ofR {P : Program} {o : Oper} (hg : o.guard = none) (hd : ∀ c, o.op ≠ .defer c) (h : ∀ K, (∀ a' w', wpListIn (Fence.wide.inRound l) n P ops Q rest a' w' → K a' w') → o.wp P a w K Q) : wpListIn (Fence.wide.inRound l) n P ops Q (o :: rest) a w :=
  wpListIn_plain hg fun K hK => oper_round hd (h K hK)
/-- One record put behind a row of records. -/
theorem wpListIn_pushRec {o1 o2 : Oper} (hg1 : o1.guard = none) (hg2 : o2.guard = none) (x s y : Operand) (ho1 : o1.op = .buildSlice 93 1 #[(0, x)]) (ho2 : o2.op = .call { callee := .builtin .append, args := #[s, y], argTypes := #[93, 93] })
    (B : Nat) (A : Option Addr) (n' c : Nat) (cs : List Value) (R : Rec) (hx : a.eval x = .agg (recV R).toArray) (hs : (a.put o1.dst (.slice (some ⟨w.heap.size, 0, none⟩) 1 1)).eval s = .slice A n' c) (hy : (a.put o1.dst (.slice (some ⟨w.heap.size, 0, none⟩) 1 1)).eval y = .slice (some ⟨w.heap.size, 0, none⟩) 1 1)
    (h63 : n' ≤ 1000000) (hown : w.ownsRow B 37 2 (.slice A n' c) n' cs) (hB : B ≤ w.heap.size)
    (h : ∀ A2 c2 w', w'.ownsRow B 37 2 (.slice A2 (n' + 1) c2) (n' + 1) (cs ++ recV R) → w.grownBy w' (Value.slice A n' c).ownBlock → Fresh w (Value.slice A n' c).ownBlock (Value.slice A2 (n' + 1) c2).ownBlock → wpListIn (Fence.wide.inRound l) n Tryz.prog ops Q rest ((a.put o1.dst (.slice (some ⟨w.heap.size, 0, none⟩) 1 1)).put o2.dst (.slice A2 (n' + 1) c2)) w') :
    wpListIn (Fence.wide.inRound l) n Tryz.prog ops Q (o1 :: o2 :: rest) a w := by
  obtain ⟨i0, hi0, hz0, hz1, hz2⟩ := info_parts Tryz.infoRec
  refine wpListIn_ofR hg1 (fun c e => by rw [ho1] at e; cases e) fun K hK => ?_
  refine wp_build_one 93 37 x ho1 i0 _ Tryz.underlying93 hi0 hz0 (recV R).toArray hx (by rw [hz1]; rfl) (by show 0 < 2; decide) (by show 2 ≤ 1000000; decide) ?_
  refine hK _ _ ?_
  clear hK K
  have hb1 : Below w.heap.size w (w.alloc (.cells (recV R).toArray 37)) := (Below.refl _ _).alloc (Nat.le_refl _) _
  have hown1 := rows_on hown hb1
  have hH := Holds.new w 37 (recV R).toArray
  have hcl : ∀ j u, (recV R)[j]? = some u → (w.alloc (.cells (recV R).toArray 37)).cell? ((⟨w.heap.size, 0, none⟩ : Addr).add j) = some u := fun j u hj => by
    rw [show (⟨w.heap.size, 0, none⟩ : Addr).add j = ⟨w.heap.size, j, none⟩ from by unfold Addr.add; split <;> simp_all, hH.cell]
    exact hj
  refine wpListIn_ofR hg2 (fun c e => by rw [ho2] at e; cases e) fun K hK => ?_
  rw [← hz1] at hown1
  obtain ⟨A2, c2, w', hr, hrow, hg, hf⟩ := run_append_fresh (P := Tryz.prog) (w.alloc (.cells (recV R).toArray 37)) B 93 o2.type 37 i0 _ Tryz.underlying93 hi0 hz0 (by rw [hz1]; rfl) (by rw [hz1]; decide) A n' c cs hown1 ⟨w.heap.size, 0, none⟩ 1 1 (recV R) (by decide) (by rw [hz1]; rfl) hcl (recV_one R) (by omega) (by rw [hz2]; omega) (Nat.le_trans hB hb1.size)
  rw [hz1] at hrow
  unfold Oper.wp execOp
  simp only [ho2, resolve, invoke, builtin, Sem.run_bind, Sem.run_pure, Result.andThen_ok, List.map_toArray, List.map_cons, List.map_nil, hs, hy, hr]
  refine hK _ _ (h A2 c2 w' hrow ⟨hg.os.trans hb1.os, hg.tape.trans hb1.tape, hg.output.trans hb1.output, Nat.le_trans hb1.size hg.size, fun k hk hne => (hg.block k (Nat.lt_of_lt_of_le hk hb1.size) hne).trans (hb1.block k hk)⟩ ?_)
  rcases hf with e | ⟨k, e, hk⟩
  · exact .inl e
  · exact .inr ⟨k, e, Nat.le_trans hb1.size hk⟩
end
theorem records_any (d : Nat) (w : World) : Calls Tryz.prog 94 #[.pointer (some ⟨d, 0, none⟩)] w fun e w' => e = .returned (.func (.func 149) #[] #[.pointer (some ⟨w.heap.size, 0, none⟩)]) ∧ w' = w.alloc (.cells #[.pointer (some ⟨d, 0, none⟩)] 23) := by
  go_enter Tryz.func94, Tryz.ntmps94
  go_wp2
  go_ret
  exact ⟨rfl, rfl⟩

theorem DiskAt.grown {w w' : World} {d r b n : Nat} {D : Dk} (h : DiskAt w d r b n D) {row : Option Nat} (hg : w.grownBy w' row) (h1 : some d ≠ row) (h2 : some r ≠ row) (h3 : some b ≠ row) : DiskAt w' d r b n D :=
  ⟨h.own.grown hg h1, h.row.grown hg h2, h.map.block (hg.block b h.map.lt h3), h.fine, h.most, h.dr⟩
theorem rows_cells {w : World} {B n size k : Nat} {e : TypeId} {v : Value} {xs : List Value} (h : w.ownsRow B e size v n xs) (hk : v.ownBlock = some k) : B ≤ k ∧ ∃ c t f, w.heap[k]? = some (.cells c t f) := by
  refine ⟨(h.lt k hk).1, ?_⟩
  rcases h.2 with ⟨hn, _⟩ | ⟨q, cap, cur, hv, hb, hq, rest⟩
  · rw [hn] at hk; cases hk
  · rw [hv] at hk
    have e : q = k := Option.some.inj hk
    subst e
    exact ⟨_, _, _, hq⟩
theorem rows_base {w : World} {B B' n size : Nat} {e : TypeId} {v : Value} {xs : List Value} (h : w.ownsRow B e size v n xs) (hB : B' ≤ B) : w.ownsRow B' e size v n xs := by
  refine ⟨h.1, ?_⟩
  rcases h.2 with hn | ⟨q, cap, cur, hv, hb, rest⟩
  · exact .inl hn
  · exact .inr ⟨q, cap, cur, hv, Nat.le_trans hB hb, rest⟩
theorem turns_below {w a b : World} {g : Nat} {q : Option Nat} (h : Turns w a g q) (hb : Below w.heap.size a b) : Turns w b g q :=
  ⟨hb.os.trans h.os, hb.tape.trans h.tape, hb.output.trans h.output, Nat.le_trans h.size hb.size, fun k hk h1 h2 => (hb.block k hk).trans (h.block k hk h1 h2)⟩
/-- What Open keeps while it reads. -/
structure OpSt (w : World) (g d r b n : Nat) (D : Dk) (pre : Stood) (o : Option Nat) (W : World) (A : Option Addr) (c : Nat) : Prop where
  eo : o = (Value.slice A pre.length c).ownBlock
  jn : JAt W g d (JSt.start.over (bare pre))
  jp : Holds W (g + 1) 32 [.pointer (some ⟨g, 0, none⟩)]
  al : Holds W (g + 1 + 1) 93 [.slice A pre.length c]
  row : W.ownsRow (g + 6) 37 2 (.slice A pre.length c) pre.length (recsV pre)
  dk : DiskAt W d r b n D
  bl : Below w.heap.size w W
  sz : g + 4 ≤ W.heap.size
theorem OpSt.grown {w A B : World} {g d r b n : Nat} {D : Dk} {s : Stood} {o row : Option Nat} {q : Option Addr} {c : Nat} (hw : w.heap.size = g) (hl : d < g ∧ r < g ∧ b < g) (h : OpSt w g d r b n D s o A q c) (hg : A.grownBy B row) (hr : ∀ k, row = some k → g + 4 ≤ k ∧ o ≠ some k) : OpSt w g d r b n D s o B q c := by
  have hne : ∀ k, k < g + 4 → some k ≠ row := fun k hk e => by have := (hr k e.symm).1; omega
  refine ⟨h.eo, Holds.grown h.jn hg (hne _ (by omega)), h.jp.grown hg (hne _ (by omega)), h.al.grown hg (hne _ (by omega)), rows_of_blocks h.row (fun k hk => hg.block k (h.row.lt k hk).2 (fun e => (hr k e.symm).2 (h.eo.trans hk))), h.dk.grown hg (hne _ (by omega)) (hne _ (by omega)) (hne _ (by omega)), h.bl.grown hg (by have := h.bl.size; omega) (fun k e => by have := (hr k e).1; omega), Nat.le_trans h.sz hg.size⟩

/-- What stands behind u is wiped, and all is synced. -/
def Dk.wiped (D : Dk) (u : Nat) : Dk := ⟨D.xs.take u ++ List.replicate (D.xs.length - u) (zeroS 64), []⟩
/-- Wiped from u to i. -/
def wipeTo (xs : List ByteArray) (u i : Nat) : List ByteArray := xs.take u ++ (List.replicate (i - u) (zeroS 64) ++ xs.drop i)
theorem stand_used {xs : List ByteArray} (hx : ∀ s ∈ xs, s.size = 64) {st st' : JSt} {l : List (Rec × ByteArray)} (h : stand xs st l = some st') (hu : st.used ≤ xs.length) : st'.used ≤ xs.length := by
  induction l generalizing st with
  | nil => rw [← Option.some.inj h]; exact hu
  | cons q l ih =>
    unfold stand at h
    by_cases hq : nextS xs st = some q
    · rw [if_pos hq] at h
      refine ih h ?_
      obtain ⟨_, _, h3, _, h5⟩ := nextS_some hq hx
      show st.used + q.2.size / 64 ≤ _
      rw [h3, recBytes_size, Nat.mul_div_cancel _ (by decide)]
      exact h5
    · rw [if_neg hq] at h
      cases h

theorem readS_one {xs : List ByteArray} {k : Nat} {x : ByteArray} (hk : xs[k]? = some x) : readS xs k 1 = x := by
  have hlt := (List.getElem?_eq_some_iff.1 hk).1
  unfold readS
  rw [if_pos (by omega), List.drop_eq_getElem_cons hlt]
  have e : xs[k] = x := (List.getElem?_eq_some_iff.1 hk).2
  rw [e]
  refine bytes_ext ?_
  rw [joinB_list]
  unfold joinS
  rw [List.take_succ_cons, List.take_zero, List.flatMap_cons, List.flatMap_nil, List.append_nil]
theorem wipe_len {xs : List ByteArray} {u k : Nat} (hu : u ≤ k) (hk : k ≤ xs.length) : (wipeTo xs u k).length = xs.length := by
  unfold wipeTo
  rw [List.length_append, List.length_append, List.length_take, List.length_replicate, List.length_drop]
  omega
theorem wipe_at {xs : List ByteArray} {u k : Nat} (hu : u ≤ k) (hk : k < xs.length) : (wipeTo xs u k)[k]? = xs[k]? := by
  unfold wipeTo
  rw [List.getElem?_append_right (by rw [List.length_take]; omega), List.getElem?_append_right (by rw [List.length_take, List.length_replicate]; omega), List.length_take, List.length_replicate, List.getElem?_drop]
  congr 1
  omega
theorem wipe_set {xs : List ByteArray} {u k : Nat} (hu : u ≤ k) (hk : k < xs.length) : (wipeTo xs u k).set k (zeroS 64) = wipeTo xs u (k + 1) := by
  unfold wipeTo
  rw [List.set_append_right _ _ (by rw [List.length_take]; omega), List.set_append_right _ _ (by rw [List.length_take, List.length_replicate]; omega), List.length_take, List.length_replicate, show k - min u xs.length - (k - u) = 0 from by omega, List.drop_eq_getElem_cons hk, List.set_cons_zero,
    show k + 1 - u = (k - u) + 1 from by omega, List.replicate_succ', List.append_assoc]
  rfl
theorem wipe_same {xs : List ByteArray} {u k : Nat} (hu : u ≤ k) (hk : xs[k]? = some (zeroS 64)) : wipeTo xs u (k + 1) = wipeTo xs u k := by
  have hlt := (List.getElem?_eq_some_iff.1 hk).1
  rw [← wipe_set hu hlt]
  have h2 := wipe_at hu hlt
  rw [hk] at h2
  obtain ⟨h3, h4⟩ := List.getElem?_eq_some_iff.1 h2
  rw [← h4, List.set_getElem_self]
theorem wipe_start {xs : List ByteArray} {u : Nat} : wipeTo xs u u = xs := by
  unfold wipeTo
  rw [Nat.sub_self, List.replicate_zero, List.nil_append, List.take_append_drop]
theorem wipe_end {xs : List ByteArray} {u : Nat} : wipeTo xs u xs.length = xs.take u ++ List.replicate (xs.length - u) (zeroS 64) := by
  unfold wipeTo
  rw [List.drop_length, List.append_nil]

set_option maxRecDepth 100000 in
set_option maxHeartbeats 8000000 in
theorem open_any (d r b n : Nat) (D : Dk) (w : World) (hD : DiskAt w d r b n D) :
    Calls Tryz.prog 44 #[.pointer (some ⟨d, 0, none⟩)] w fun e w' => ∃ (j : Nat) (A : Option Addr) (c : Nat) (l : Stood) (st : JSt), stand D.xs JSt.start (bare l) = some st ∧ nextS D.xs st = none ∧ e = .returned (.tuple #[.pointer (some ⟨j, 0, none⟩), .slice A l.length c, .int .i64 0]) ∧ JAt w' j d st ∧ w'.ownsRow w.heap.size 37 2 (.slice A l.length c) l.length (recsV l) ∧ DiskAt w' d r b n (D.wiped st.used) ∧ Turns w w' r (some b) ∧ w.heap.size ≤ j := by
  have hfr : (#[.pointer (some ⟨d, 0, none⟩)] ++ Array.replicate (Tryz.f44.ntmps - (#[.pointer (some ⟨d, 0, none⟩)] : Array Value).size) undef : Array Value) = #[.pointer (some ⟨d, 0, none⟩), undef, undef, undef, undef, undef, undef, undef, undef, undef, undef, undef, undef, undef, undef, undef, undef, undef, undef, undef, undef, undef, undef, undef, undef, undef, undef, undef, undef, undef, undef, undef, undef, undef, undef, undef, undef, undef, undef, undef, undef, undef, undef, undef, undef, undef, undef, undef, undef, undef, undef, undef, undef, undef, undef, undef, undef, undef, undef, undef] := by kernel_rfl
  obtain ⟨g, hg⟩ : ∃ g, w.heap.size = g := ⟨_, rfl⟩
  have hltD := hid hD.lt
  have hD0 := hid hD
  have hgw := hid hg
  clear hD hg
  refine callsIn_wide.1 (callsIn_of_wp_marks (n := 10) Tryz.func44 rfl trivial ?_ rfl)
  rw [hfr]
  refine wpIn_wide.2 ?_
  clear hfr
  go_wp2_with (first
    | ((with_reducible refine at_slot (some 16) ?_); refine wpList_run rfl (.agg (jCells d zeroH 0 0).toArray) w (by kernel_rfl) ?_)
    | ((with_reducible refine at_slot (some 17) ?_); refine wpList_run rfl (.pointer (some ⟨g, 0, none⟩)) (w.alloc (.cells (jCells d zeroH 0 0).toArray 101)) (by rw [← hgw.out]; kernel_rfl) ?_)
    | fail)
  obtain ⟨W1, hW1⟩ : ∃ V, ((w.alloc (.cells (jCells d zeroH 0 0).toArray 101)).alloc (.cells #[.pointer (some ⟨g, 0, none⟩)] 32)).alloc (.cells #[.slice none 0 0] 93) = V := ⟨_, rfl⟩
  have hs1 : W1.heap.size = g + 3 := by rw [← hW1, ← hgw.out]; simp
  have z1 : (w.alloc (.cells (jCells d zeroH 0 0).toArray 101)).heap.size = g + 1 := by rw [← hgw.out]; simp
  have z2 : ((w.alloc (.cells (jCells d zeroH 0 0).toArray 101)).alloc (.cells #[.pointer (some ⟨g, 0, none⟩)] 32)).heap.size = g + 1 + 1 := by rw [← hgw.out]; simp
  have hJ1 := hid (show Holds W1 g 101 (jCells d zeroH 0 0) from by rw [← hW1, ← hgw.out]; exact ((Holds.new w 101 (jCells d zeroH 0 0).toArray).alloc _).alloc _)
  have hP1 := hid (show Holds W1 (g + 1) 32 [.pointer (some ⟨g, 0, none⟩)] from by rw [← hW1, ← z1]; exact (Holds.new _ 32 #[.pointer (some ⟨g, 0, none⟩)]).alloc _)
  have hA1 := hid (show Holds W1 (g + 1 + 1) 93 [.slice none 0 0] from by rw [← hW1, ← z2]; exact Holds.new _ 93 #[.slice none 0 0])
  have hB1 := hid (show Below w.heap.size w W1 from by rw [← hW1]; exact (((Below.refl _ _).alloc (Nat.le_refl _) _).alloc (by simp) _).alloc (by simp; omega) _)
  rw [hW1]
  clear hW1 z1 z2
  refine (records_any d W1).mono ?_
  rintro e W2 ⟨rfl, hW2⟩
  have hb : Below W1.heap.size W1 W2 := by rw [hW2]; exact (Below.refl _ _).alloc (Nat.le_refl _) _
  have hs2 : W2.heap.size = g + 4 := by rw [hW2, World.size_alloc, hs1]
  have hC2 := hid (show Holds W2 (g + 3) 23 [.pointer (some ⟨d, 0, none⟩)] from by rw [hW2, ← hs1]; exact Holds.new _ 23 #[.pointer (some ⟨d, 0, none⟩)])
  have hJ2 := hid (hJ1.out.below hb hJ1.out.lt)
  have hP2 := hid (hP1.out.below hb hP1.out.lt)
  have hA2 := hid (hA1.out.below hb hA1.out.lt)
  have hB2 := hid (bup hb hB1.out)
  have hD2 := hid (hD0.out.on hB2.out)
  clear hb hW2 hJ1 hP1 hA1 hB1
  rw [hs1]
  go_wp2_with fail
  refine (wpIn_wide (n := 10)).1 ?_
  simp only [hgw.out]
  have hl := hid (show d < g ∧ r < g ∧ b < g from by have := hltD.out; have := hgw.out; omega)
  have hseq := hid (records_all 8 (fun k => k = g ∨ k = g + 1 + 1) (g + 3) d r b n D (by omega) (by have := hl.out; omega) (by have := hl.out; omega) W2 (fun k hk => by omega) hC2.out hD2.out)
  have hn256 := hD2.out.most
  refine wpIn_range_share rfl (by omega) (gf := 149) (lb := #[.pointer (some ⟨g + 3, 0, none⟩)]) rfl trivial (enters_of Tryz.func149 (by kernel_rfl) rfl)
    hseq.out (Below.refl _ _) (fun _ => rfl) KeepM.trans (fun q W l o o' hl2 ho hc => KeepM.put W l o o' ho hc (by have := hl.out; omega))
    (fun pre o W => ∃ A c, OpSt w g d r b n D pre o W A c)
    (fun s o A B row ⟨q, c, h⟩ hg hr => ⟨q, c, h.grown hgw.out hl.out hg (fun k e => by have := hr k e; rw [hs2] at this; exact this)⟩)
    (fun s o A k ⟨q, c, h⟩ e => by rw [hs2]; exact rows_cells h.row (h.eo.symm.trans e))
    ⟨none, 0, ⟨rfl, hJ2.out, hP2.out, hA2.out, World.ownsRow_nil _ _ _ _, hD2.out, hB2.out, by omega⟩⟩
    (fun x a' W => ∃ q, a' = { tmps := #[.pointer (some ⟨d, 0, none⟩), undef, .pointer none, .slice none 0 0, .int .i64 0, .pointer (some ⟨g + 1, 0, none⟩), .pointer (some ⟨g + 1 + 1, 0, none⟩), .pointer (some ⟨q, 0, none⟩), .string x.1.2, undef, undef, undef, undef, .pointer (some ⟨d, 0, none⟩), .bool false, .pointer (some ⟨d, 0, none⟩), .agg (jCells d zeroH 0 0).toArray, .pointer (some ⟨g, 0, none⟩), .pointer (some ⟨d, 0, none⟩), .func (.func 149) #[] #[.pointer (some ⟨g + 3, 0, none⟩)], .agg (recV x.1.1).toArray, .string x.1.2, undef, undef, undef, undef, undef, undef, undef, undef, undef, undef, undef, undef, undef, undef, undef, undef, undef, undef, undef, undef, undef, undef, undef, undef, undef, undef, undef, undef, undef, undef, undef, undef, undef, undef, undef, undef, undef, undef], defers := [] } ∧ g + 4 ≤ q ∧ Holds W q 37 (recV x.1.1))
    (fun x a' A B row ⟨q, q1, q2, q3⟩ hg hr => ⟨q, q1, q2, holds_kept q3 hg (fun k e => (hr k e).2)⟩) ?assign ?body ?done
  case assign =>
    rintro l pre x o W K hz ⟨A, c, hi⟩ hK
    have hI := hid hi
    obtain ⟨q, hq⟩ : ∃ q, W.heap.size = q := ⟨_, rfl⟩
    have hq' := hid hq
    have hqg : g + 4 ≤ q := by rw [← hq]; exact hi.sz
    clear hi hq
    gi_wp2_with (first
      | ((with_reducible refine at_slotIn (some 7) ?_); refine wpListIn_run rfl (fun c e => by cases e) (by kernel_rfl) (.pointer (some ⟨q, 0, none⟩)) (W.alloc (.cells (recV rec0).toArray 37)) (by rw [← hq'.out]; kernel_rfl) ?_)
      | ((with_reducible refine at_slotIn none ?_); refine wpListIn_store_mid rfl 37 (.tmp 7) (.tmp 20) rfl q 0 (recV x.1.1).toArray (by kernel_rfl) (by kernel_rfl) (by exact rec_there hq'.out _) (by exact recSize _) (by exact recOne _) ?_)
      | fail)
    obtain ⟨Wc, hWc⟩ : ∃ V, (W.alloc (.cells (recV rec0).toArray 37)).setCells q 0 (recV x.1.1) = V := ⟨_, rfl⟩
    have hh := rec_new hq'.out hWc
    have hb := hh.2
    rw [hWc]
    refine hK _ _ ⟨hb.size, fun i o _ hi _ => (hb.block i (Array.getElem?_eq_some_iff.1 hi).1).trans hi⟩ (KeepM.below hb) ⟨A, c, hI.out.grown hgw.out hl.out (row := none) ⟨hb.os, hb.tape, hb.output, hb.size, fun k hk _ => hb.block k hk⟩ (fun k e => by cases e)⟩ ⟨q, rfl, hqg, hh.1⟩
  case body =>
    rintro l pre x o a' W hl1 hz ⟨r0, hr0⟩ ⟨A, c, hi⟩ ⟨q, rfl, hq, hx⟩ hlen
    have hI := hid hi
    have hX := hid hx
    have hfo := over_fine pre
    have hps := hid (fun V hj => pass_any g d (JSt.start.over (bare pre)) hfo.1 x.1.1 x.1.2 x.2.1 (by rw [hfo.2.1]; omega) (by have := hfo.2.2; omega) (by have := x.2.2; omega) V hj)
    have c5 := hi.jp.cK 0 _ rfl
    clear hi hx hfo
    gi_wp2_with (first
      | ((with_reducible refine at_slotIn (some 23) ?_); refine wpListIn_load_mid rfl 37 (.tmp 7) rfl q 0 rfl (recV x.1.1) _ (by exact h_all hX.out) Tryz.underlying37 rfl (by exact recSizeL _) ?_)
      | fail)
    refine ⟨trivial, (CallsIn.inRound l (callsIn_wide.2 (hps.out _ hI.out.jn))).mono ?_⟩
    rintro e W3 ⟨rfl, hjn, htn⟩
    have hX3 := hid (htn.holds hX.out (by omega) (fun e => by cases e))
    have hA3 := hid (htn.holds hI.out.al (by omega) (fun e => by cases e))
    have hR3 := hid (rows_of_blocks hI.out.row (fun k hk => htn.block k (hI.out.row.lt k hk).2 (by have := (hI.out.row.lt k hk).1; omega) (fun e => by cases e)))
    have hJ3 := hid hjn
    have hT3 := hid htn
    have hs3 := hid (show g + 6 ≤ W3.heap.size from by have := htn.size; have := hs2; omega)
    clear hjn htn c5 hps
    have c6 := hA3.out.cK 0 _ rfl
    gi_wp2_with (first
      | ((with_reducible refine at_slotIn (some 27) ?_); refine wpListIn_load_mid rfl 37 (.tmp 7) rfl q 0 rfl (recV x.1.1) _ (by exact h_all hX3.out) Tryz.underlying37 rfl (by exact recSizeL _) ?_)
      | ((with_reducible refine at_slotIn (some 28) ?_); refine wpListIn_pushRec rfl rfl (.tmp 27) (.tmp 26) (.tmp 28) rfl rfl (g + 6) A pre.length c _ x.1.1 rfl rfl rfl (by omega) hR3.out hs3.out ?_; intro A2 c2 W4 hrow4 hg4 hf4; have hF4 := hid hf4; have hR4 := hid hrow4; have hG4 := hid hg4; have hA4 := hid (hA3.out.grown hg4 (fun e => by have := (hR3.out.lt _ e.symm).1; omega)); have c7 := hA4.out.cK 0 _ rfl; have f7 := hA4.out.frozen 0; clear hrow4 hg4 hf4 c6)
      | fail)
    have hset := hA4.out.set 0 (.slice A2 (pre.length + 1) c2)
    have hno : ∀ k, (Value.slice A pre.length c).ownBlock = some k → g + 6 ≤ k := fun k e => (hR3.out.lt k e).1
    have hno2 : ∀ k, (Value.slice A2 (pre.length + 1) c2).ownBlock = some k → g + 6 ≤ k := fun k e => (hR4.out.lt k e).1
    obtain ⟨W5, hW5⟩ : ∃ V, W4.setCell ⟨g + 1 + 1, 0, none⟩ (.slice A2 (pre.length + 1) c2) = V := ⟨_, rfl⟩
    have hg5 : W4.grownBy W5 (some (g + 1 + 1)) := by rw [← hW5]; exact grownBy_setCell' W4 (g + 1 + 1) _
    rw [hW5] at hset ⊢
    have hl3 := hl.out
    have keep : ∀ k (ob : Obj), k ≠ g → k ≠ g + 1 + 1 → (Value.slice A pre.length c).ownBlock ≠ some k → W.heap[k]? = some ob → W5.heap[k]? = some ob := fun k ob k1 k2 k3 hk => by
      have h3 := (hT3.out.block k (Array.getElem?_eq_some_iff.1 hk).1 k1 (fun e => by cases e)).trans hk
      have h4 := (hG4.out.block k (Array.getElem?_eq_some_iff.1 h3).1 (fun e => k3 e.symm)).trans h3
      exact (hg5.block k (Array.getElem?_eq_some_iff.1 h4).1 (fun e => k2 (Option.some.inj e))).trans h4
    have hsz5 : W.heap.size ≤ W5.heap.size := Nat.le_trans hT3.out.size (Nat.le_trans hG4.out.size hg5.size)
    have hlow : ∀ k, k < g → k < W.heap.size → W5.heap[k]? = W.heap[k]? := fun k hk hk2 => by
      obtain ⟨ob, ho⟩ : ∃ ob, W.heap[k]? = some ob := ⟨_, Array.getElem?_eq_getElem hk2⟩
      rw [ho]
      exact keep k ob (by omega) (by omega) (fun e => by have := hno k e; omega) ho
    refine ⟨⟨hsz5, fun k ob hk ho hc => keep k ob (by omega) (by omega) (fun e => ?_) ho⟩, ⟨⟨hsz5, fun k ob ho hc hx => keep k ob (fun e => hx (.inl (.inl e))) (fun e => hx (.inl (.inr e))) (fun e => hx (.inr (hI.out.eo.trans e))) ho⟩, fun ob ho => keep b ob (by omega) (by omega) (fun e => by have := hno b e; omega) ho⟩, (Value.slice A2 (pre.length + 1) c2).ownBlock, ?_, A2, c2, ?_⟩
    · obtain ⟨_, c', t', f', hq'⟩ := rows_cells hI.out.row e
      rw [ho] at hq'
      cases hq'
      cases hc
    · rw [hI.out.eo]
      rcases hF4.out with e | ⟨k, e, hk⟩
      · exact .inl e
      · exact .inr ⟨k, e, Nat.le_trans hT3.out.size hk⟩
    · have hR5 := rows_of_blocks hR4.out (w' := W5) (fun k hk => hg5.block k (hR4.out.lt k hk).2 (fun e => by have := hno2 k hk; have := Option.some.inj e; omega))
      have hlen2 : (pre ++ [x]).length = pre.length + 1 := by rw [List.length_append]; rfl
      have hj5 := Holds.grown (Holds.grown hJ3.out hG4.out (fun e => by have := hno g e.symm; omega)) hg5 (fun e => by have := Option.some.inj e; omega)
      have hbl : Below w.heap.size w W5 := ⟨(hg5.os.trans (hG4.out.os.trans hT3.out.os)).trans hI.out.bl.os, (hg5.tape.trans (hG4.out.tape.trans hT3.out.tape)).trans hI.out.bl.tape, (hg5.output.trans (hG4.out.output.trans hT3.out.output)).trans hI.out.bl.output, Nat.le_trans hI.out.bl.size hsz5, fun k hk => (hlow k (by rw [← hgw.out]; exact hk) (Nat.lt_of_lt_of_le hk hI.out.bl.size)).trans (hI.out.bl.block k hk)⟩
      refine ⟨by rw [hlen2], ?_, ((hI.out.jp.grown (turns_grown hT3.out) (fun e => by have := Option.some.inj e; omega)).grown hG4.out (fun e => by have := hno _ e.symm; omega)).grown hg5 (fun e => by have := Option.some.inj e; omega), ?_, ?_, ((hI.out.dk.grown (turns_grown hT3.out) (fun e => by have := Option.some.inj e; omega) (fun e => by have := Option.some.inj e; omega) (fun e => by have := Option.some.inj e; omega)).grown hG4.out (fun e => by have := hno _ e.symm; omega) (fun e => by have := hno _ e.symm; omega) (fun e => by have := hno _ e.symm; omega)).grown hg5 (fun e => by have := Option.some.inj e; omega) (fun e => by have := Option.some.inj e; omega) (fun e => by have := Option.some.inj e; omega), hbl, by omega⟩
      · rw [bare_snoc, over_snoc]
        exact hj5
      · rw [hlen2]
        exact hset
      · rw [hlen2, recsV_snoc]
        exact hR5
  case done =>
    rintro D' xs o W hD' ⟨st, hst, hnx⟩ ⟨A, c, hi⟩ hK
    have hov := stand_over hst
    have hus : st.used ≤ n := by
      have h := stand_used hD2.out.fine.secs hst (Nat.zero_le _)
      rw [hD2.out.fine.len] at h
      exact h
    have hfo := over_fine xs
    rw [← hov] at hfo
    have hpl := hid hfo.1
    have hI := hid hi
    have hjn := hid (show JAt W g d st from by rw [hov]; exact hi.jn)
    have hKd := hid hK
    have hst' := hid hst
    have hnx' := hid hnx
    have hRp := hid (fun W => show Calls Tryz.prog 95 #[.string ⟨#[0]⟩, .int .i64 64] W fun e w' => e = .returned (.string (zeroS 64)) ∧ Below W.heap.size W w' from by
      have h := Tryz.strings_Repeat ⟨#[0]⟩ 64 W (by decide) (by decide)
      rw [repeat0] at h
      exact h)
    obtain ⟨bl, hbl⟩ : ∃ z, zeroS 64 = z := ⟨_, rfl⟩
    have hbl' := hid hbl
    rw [hbl] at hRp
    clear hi hK hst hnx hov hfo hbl
    go_wp2_with fail
    refine (hRp.out _).mono ?_
    rintro e W6 ⟨rfl, hb⟩
    have hI6 := hid (hI.out.grown hgw.out hl.out (row := none) ⟨hb.os, hb.tape, hb.output, hb.size, fun k hk _ => hb.block k hk⟩ (fun k e => by cases e))
    have hj6 := hid (Holds.below hjn.out hb (Holds.lt hjn.out))
    have hK6 := hid (show W6.heap[D']? = some (.deferred (some [])) from (hb.block D' (Array.getElem?_eq_some_iff.1 hKd.out).1).trans hKd.out)
    clear hb hI hjn hKd hRp
    have c5 := hI6.out.jp.cK 0 _ rfl
    have c34 := (Holds.cell hj6.out 34).trans (jCells_used hpl.out)
    obtain ⟨u, hu⟩ : ∃ u, st.used = u := ⟨_, rfl⟩
    rw [hu] at c34 hus
    have hu' := hid hu
    clear hu
    go_wp2_with fail
    clear c5 c34
    go_loopw [10] (fun i wr => ∃ (k : Nat) (Di : Dk), u ≤ k ∧ k ≤ n ∧ i = .int .i64 (k : Int) ∧ Di.xs = wipeTo D.xs u k ∧ DiskAt wr d r b n Di ∧ Turns W6 wr r (some b)) (fun i _ => n - (intOf i).toNat)
    case atStart => exact ⟨u, D, Nat.le_refl _, hus, rfl, wipe_start.symm, hI6.out.dk, Turns.refl _ _ _⟩
    case round =>
      obtain ⟨k, Di, huk, hkn, rfl, hxs, hdk, htn⟩ := hrel
      obtain ⟨W7, rfl⟩ : ∃ V, V = wr := ⟨_, rfl⟩
      have hA7 := hid hdk
      have hT7 := hid htn
      have hxs' := hid hxs
      have hsec := hid (dkSectors_any d r b n Di W7 hdk)
      have hDl := hid hD2.out.fine.len
      have hDs := hid hD2.out.fine.secs
      clear hdk htn hxs
      by_cases hlt : k < n
      · have hki : (k : Int) < (n : Int) := by omega
        obtain ⟨x, hx⟩ : ∃ x, D.xs[k]? = some x := ⟨_, List.getElem?_eq_getElem (by rw [hDl.out]; exact hlt)⟩
        have hrd := hid (show Calls Tryz.prog 96 #[.pointer (some ⟨d, 0, none⟩), .int .i64 (k : Int), .int .i64 1] W7 fun e w' => e = .returned (.string x) ∧ Below W7.heap.size W7 w' from by
          have h := read_any k 1 d r b n Di W7 hA7.out (by decide) (by omega)
          rw [readS_one (x := x) (by rw [hxs'.out, wipe_at huk (by rw [hDl.out]; exact hlt)]; exact hx)] at h
          exact h)
        have hx' := hid hx
        have u2 := IntWalk.i64_in ((k : Int) + 1) (by omega)
        clear hx
        by_cases hxb : x = bl
        · have hsame := hid (show wipeTo D.xs u (k + 1) = wipeTo D.xs u k from wipe_same huk (by rw [hx'.out, hxb, hbl'.out]))
          subst hxb
          go_wp2_with (first
            | (go_at_call 48; refine hsec.out.mono ?_; rintro e w' ⟨rfl, rfl⟩)
            | (go_at_call 96; refine hrd.out.mono ?_; rintro e W8 ⟨rfl, hb⟩; have hA8 := hid (hA7.out.on hb); have hT8 := hid (tr_up hb hT7.out); clear hb)
            | fail)
          go_roundw
          case rel => exact ⟨k + 1, Di, by omega, by omega, by go_num, by rw [hsame.out]; exact hxs'.out, hA8.out, hT8.out⟩
          case measure => simp [intOf]; omega
        · have e1 := ba_ne hxb
          have hblz := hid (show bl.size = 64 from by rw [← hbl'.out]; exact zeroS_size 64)
          have hset := hid (show (Di.write k bl).xs = wipeTo D.xs u (k + 1) from by
            show Di.xs.set k bl = _
            rw [hxs'.out, ← hbl'.out]
            exact wipe_set huk (by rw [hDl.out]; exact hlt))
          go_wp2_with (first
            | (go_at_call 48; refine hsec.out.mono ?_; rintro e w' ⟨rfl, rfl⟩)
            | (go_at_call 96; refine hrd.out.mono ?_; rintro e W8 ⟨rfl, hb⟩; have hA8 := hid (hA7.out.on hb); have hT8 := hid (tr_up hb hT7.out); clear hb)
            | (go_at_call 20; refine (dkWrite_yes k bl hblz.out d r b n Di hlt _ hA8.out).mono ?_; rintro e W9 ⟨rfl, hA, hT⟩; have hA9 := hid hA; have hT9 := hid (tr_on hT8.out hT); clear hA hT)
            | fail)
          go_roundw
          case rel => exact ⟨k + 1, _, by omega, by omega, by go_num, hset.out, hA9.out, hT9.out⟩
          case measure => simp [intOf]; omega
      · obtain rfl : k = n := by omega
        have hki : ¬ (k : Int) < (k : Int) := by omega
        have hfin := hid (show Di.sync = D.wiped st.used from by
          unfold Dk.sync Dk.wiped
          rw [hxs'.out, hu'.out, ← hDl.out, wipe_end])
        go_wp2_with (first
          | (go_at_call 48; refine hsec.out.mono ?_; rintro e w' ⟨rfl, rfl⟩)
          | fail)
        refine (dkSync_any d r b k Di W7 hA7.out).mono ?_
        rintro e W8 ⟨rfl, hA, hT⟩
        rw [hfin.out] at hA
        have hb : Below W8.heap.size W8 W8.drew := (Below.refl _ _).drew
        have hT8 := tr_up hb (tr_on hT7.out hT)
        have hAf := hid (hA.on hb)
        have hl3 := hl.out
        have hnr : ∀ q, g ≤ q → q ≠ r ∧ some q ≠ some b := fun q hq => ⟨by omega, fun e => by have := Option.some.inj e; omega⟩
        have hJf := hid (show JAt W8.drew g d st from hT8.holds hj6.out (hnr _ (Nat.le_refl _)).1 (hnr _ (Nat.le_refl _)).2)
        have hRf := hid (rows_of_blocks hI6.out.row (w' := W8.drew) (fun k hk => hT8.block k (hI6.out.row.lt k hk).2 (hnr k (by have := (hI6.out.row.lt k hk).1; omega)).1 (hnr k (by have := (hI6.out.row.lt k hk).1; omega)).2))
        have hKf := hid (show W8.drew.heap[D']? = some (.deferred (some [])) from (hT8.block D' (Array.getElem?_eq_some_iff.1 hK6.out).1 (hnr D' (by omega)).1 (hnr D' (by omega)).2).trans hK6.out)
        have hc5 := hid ((hT8.holds hI6.out.jp (hnr _ (by omega)).1 (hnr _ (by omega)).2).cK 0 _ rfl)
        have hc6 := hid ((hT8.holds hI6.out.al (hnr _ (by omega)).1 (hnr _ (by omega)).2).cK 0 _ rfl)
        have hTf := hid (tr_on (Turns.of_below hI6.out.bl r (some b)) hT8)
        clear hb hT8 hA hT hnr hl3 hA7 hT7 hI6 hj6 hK6 hsec hxs' hfin
        go_wp2_with fail
        refine wp_region_noPanic ?_
        have hb : Below W8.heap.size W8 W8.drew := (Below.refl _ _).drew
        clear hb 
        refine wp_region_held_drew (S := fun V => V.cell? ⟨g + 1, 0, none⟩ = some (.pointer (some ⟨g, 0, none⟩)) ∧ V.cell? ⟨g + 1 + 1, 0, none⟩ = some (.slice A xs.length c)) (by kernel_rfl) (by exact ⟨hc5.out, hc6.out⟩) (fun hHeld => ?_)
        generalize W8.drew = W9 at *
        refine tkn 0 (.pointer (some ⟨g, 0, none⟩)) rfl (by kernel_rfl) (fun _ _ _ h => h) (.inl ⟨by kernel_rfl, fun V hS => by have c5 := hS.1; go_simp⟩) hHeld ?_
        simp only [ly, Act.put]
        refine tkn 1 (.slice A xs.length c) rfl (by kernel_rfl) (fun _ _ _ h => h) (.inl ⟨by kernel_rfl, fun V hS => by have c6 := hS.2; go_simp⟩) hHeld ?_
        simp only [ly, Act.put]
        refine tkn 2 (.pointer (some ⟨g, 0, none⟩)) rfl (by kernel_rfl) (fun _ _ _ h => h) (yieldsIf_assign _ rfl rfl rfl) hHeld ?_
        simp only [ly, Act.put]
        refine tkn 3 (.slice A xs.length c) rfl (by kernel_rfl) (fun _ _ _ h => h) (yieldsIf_assign _ rfl rfl rfl) hHeld ?_
        simp only [ly, Act.put]
        refine tkn 4 (.int .i64 0) rfl (by kernel_rfl) (fun _ _ _ h => h) (yieldsIf_assign _ rfl rfl rfl) hHeld ?_
        simp only [ly, Act.put]
        refine wpAnyH_done (by kernel_rfl) ?_ _
        refine NoPanic.normal ?_
        go_wp2_with fail
        refine ⟨by simp, .inl ⟨_, _, rfl, run_takeDeferred hKf.out, ?_⟩⟩
        have hpo : Below w.heap.size W9 (W9.putObj D' (.deferred none)) := belowK_b (Nat.le_refl _) W9 D' _ _ (by have := hgw.out; omega) hKf.out rfl rfl
        exact ⟨.tuple #[.pointer (some ⟨g, 0, none⟩), .slice A xs.length c, .int .i64 0], by simp [results, Tryz.f44, go_sem], g, A, c, xs, st, hst'.out, hnx'.out, rfl, (World.putObj_heap_other (by omega)).trans hJf.out, rows_base (ownsRow_putObj hRf.out _ hKf.out rfl) (by have := hgw.out; omega), hAf.out.below hpo hltD.out, turns_below hTf.out hpo, Nat.le_of_eq hgw.out⟩


end Go.Proofs.YtmgaegaibglnhaaGreat
namespace Go.Proofs.YtmgaegaibglnhaaGreat
open Go.RowKit
open Go.Lib (strCells strCells_length strCells_oneCell)
attribute [local irreducible] Sha.compress Sha.blocks Sha.sha Sha.pad

theorem open_nil (w : World) : Calls Tryz.prog 44 #[.pointer none] w fun e w' => e = .returned (.tuple #[.pointer none, .slice none 0 0, .int .i64 1]) ∧ w' = w := by
  refine callsIn_wide.1 (callsIn_of_wp_marks (n := 10) Tryz.func44 rfl trivial ?_ rfl)
  have hfr : (#[.pointer none] ++ Array.replicate (Tryz.f44.ntmps - (#[.pointer none] : Array Value).size) undef : Array Value) = #[.pointer none, undef, undef, undef, undef, undef, undef, undef, undef, undef, undef, undef, undef, undef, undef, undef, undef, undef, undef, undef, undef, undef, undef, undef, undef, undef, undef, undef, undef, undef, undef, undef, undef, undef, undef, undef, undef, undef, undef, undef, undef, undef, undef, undef, undef, undef, undef, undef, undef, undef, undef, undef, undef, undef, undef, undef, undef, undef, undef, undef] := by kernel_rfl
  rw [hfr]
  refine wpIn_wide.2 ?_
  clear hfr
  go_wp2_with fail
  exact ⟨.tuple #[.pointer none, .slice none 0 0, .int .i64 1], by simp [results, Tryz.f44, go_sem], rfl, rfl⟩
theorem turnS_of {a b : World} {S : Nat → Prop} {g : Nat} {q : Option Nat} (h : Turns a b g q) (hg : S g) (hq : ∀ k, q = some k → S k) : TurnS S a b :=
  ⟨h.os, h.tape, h.output, h.size, fun k hk hs => h.block k hk (fun e => hs (e ▸ hg)) (fun e => hs (hq k e.symm))⟩
def JS (j r b : Nat) : Nat → Prop := fun k => k = j ∨ k = r ∨ k = b
/-- A disk behind the first i sectors of some bytes were written from sector u on. -/
def writeS (D : Dk) (u : Nat) (t : ByteArray) : Nat → Dk
  | 0 => D
  | i + 1 => (writeS D u t i).write (u + i) (t.extract (i * 64) ((i + 1) * 64))
theorem jSync_any (j d r b n : Nat) (D : Dk) (st : JSt) (w : World) (hJ : JAt w j d st) (hD : DiskAt w d r b n D) : Calls Tryz.prog 16 #[.pointer (some ⟨j, 0, none⟩)] w fun e w' => e = .returned (.int .i64 0) ∧ DiskAt w' d r b n D.sync ∧ Turns w w' r (some b) := by
  have hs := hid (dkSync_any d r b n D w hD)
  have c0 := Holds.cK hJ 0 (.pointer (some ⟨d, 0, none⟩)) rfl
  clear hJ hD
  go_enter Tryz.func16, Tryz.ntmps16
  go_wp2_with fail
  refine hs.out.mono ?_
  rintro e w' ⟨rfl, hA, hT⟩
  have hA := hid hA
  have hT := hid hT
  go_wp2_with fail
  go_ret
  exact ⟨rfl, hA.out, hT.out⟩
theorem jUsed_any (j d : Nat) (st : JSt) (hp : st.prev.length = 32) (w : World) (hJ : JAt w j d st) : Calls Tryz.prog 22 #[.pointer (some ⟨j, 0, none⟩)] w fun e w' => e = .returned (.int .i64 (st.used : Int)) ∧ w' = w := by
  have c34 := (Holds.cell hJ 34).trans (jCells_used hp)
  clear hJ
  go_enter Tryz.func22, Tryz.ntmps22
  go_wp2_with fail
  go_ret
  exact ⟨rfl, rfl⟩
set_option maxRecDepth 100000 in
set_option maxHeartbeats 4000000 in
theorem append_bad (j d r b n : Nat) (D : Dk) (st : JSt) (hp : st.prev.length = 32) (R : Rec) (hm : sealMay (st.seq : Int) R = false) (w : World) (hJ : JAt w j d st) (hD : DiskAt w d r b n D) :
    Calls Tryz.prog 14 #[.pointer (some ⟨j, 0, none⟩), .agg (recV R).toArray] w fun e w' => e = .returned (.int .i64 800) ∧ Below w.heap.size w w' := by
  obtain ⟨kd, data⟩ := R
  have hp : st.prev.length = 32 := hp
  obtain ⟨g, hg⟩ : ∃ g, w.heap.size = g := ⟨_, rfl⟩
  obtain ⟨W0, hW0⟩ : ∃ V, w.alloc (.cells #[.int .i64 kd, .string data] 37) = V := ⟨_, rfl⟩
  have hb0 : Below w.heap.size w W0 := by rw [← hW0]; exact (Below.refl _ _).alloc (Nat.le_refl _) _
  have hQ0 := hid (show Holds W0 g 37 (recV ⟨kd, data⟩) from by rw [← hW0, ← hg]; exact Holds.new _ 37 #[.int .i64 kd, .string data])
  have hJ0 := hid (show JAt W0 j d st from Holds.below hJ hb0 (Holds.lt hJ))
  have hA0 := hid (hD.on hb0)
  have hB0 := hid hb0
  have hjg := hid (show j < g from by rw [← hg]; exact Holds.lt hJ)
  have hW0' := hid hW0
  have hgw := hid hg
  have hpl := hid hp
  have hSe := hid (fun W => seal_any st.prev hp (st.seq : Int) ⟨kd, data⟩ W)
  obtain ⟨⟨bt, ec⟩, hans⟩ : ∃ a, sealAns st.prev (st.seq : Int) ⟨kd, data⟩ = a := ⟨_, rfl⟩
  rw [hans] at hSe
  have hCp := hid (hash_cells st.prev hp)
  obtain ⟨rfl, rfl⟩ : bt = ⟨#[]⟩ ∧ ec = 800 := by
    unfold sealAns at hans
    rw [hm] at hans
    exact ⟨(congrArg Prod.fst hans).symm, (congrArg Prod.snd hans).symm⟩
  clear hJ hD hW0 hg hp hans hb0 hm
  show Calls Tryz.prog 14 #[.pointer (some ⟨j, 0, none⟩), .agg #[.int .i64 kd, .string data]] w _
  go_enter Tryz.func14, Tryz.ntmps14
  go_wp2_with (first
    | ((with_reducible refine at_slot (some 3) ?_); refine wpList_run rfl (.pointer (some ⟨g, 0, none⟩)) (w.alloc (.cells #[.int .i64 kd, .string data] 37)) (by rw [← hgw.out]; kernel_rfl) ?_; rw [hW0'.out])
    | fail)
  have hb : Below W0.heap.size W0 W0.drew := (Below.refl _ _).drew
  have hJ1 := hid (hJ0.out.below hb hJ0.out.lt)
  have hQ1 := hid (hQ0.out.below hb hQ0.out.lt)
  have hA1 := hid (hA0.out.on hb)
  have hB1 := hid (bup hb hB0.out)
  clear hb hJ0 hQ0 hA0 hB0
  refine wp_region_held_drew (S := fun V => JAt V j d st ∧ Holds V g 37 (recV ⟨kd, data⟩)) (by kernel_rfl) (by exact ⟨hJ1.out, hQ1.out⟩) (fun hHeld => ?_)
  generalize W0.drew = W1 at *
  refine tkn 0 (.pointer (some ⟨j, 0, none⟩)) rfl (by kernel_rfl) (fun _ _ _ h => h) (yieldsIf_move _ rfl rfl rfl) hHeld ?_
  simp only [ly, Act.put]
  refine tkn 1 (.pointer (some ⟨j, 0, none⟩)) rfl (by kernel_rfl) (fun _ _ _ h => h) (.inl ⟨by kernel_rfl, fun w _ => by go_simp⟩) hHeld ?_
  simp only [ly, Act.put]
  refine tkn 2 (.pointer (some ⟨j, 1, none⟩)) rfl (by kernel_rfl) (fun _ _ _ h => h) (.inl ⟨by kernel_rfl, fun w _ => by go_simp⟩) hHeld ?_
  simp only [ly, Act.put]
  refine tkn 3 (.agg (byteCells st.prev).toArray) rfl (by kernel_rfl) (fun _ _ _ h => h) (yieldsIf_load_mid (by kernel_rfl) _ _ rfl _ _ rfl _ _ (fun V hS => jRange hpl.out hS.1) Tryz.underlying55 rfl (by exact hCp.out.size')) hHeld ?_
  simp only [ly, Act.put]
  refine tkn 4 (.pointer (some ⟨j, 0, none⟩)) rfl (by kernel_rfl) (fun _ _ _ h => h) (yieldsIf_move _ rfl rfl rfl) hHeld ?_
  simp only [ly, Act.put]
  refine tkn 5 (.pointer (some ⟨j, 0, none⟩)) rfl (by kernel_rfl) (fun _ _ _ h => h) (.inl ⟨by kernel_rfl, fun w _ => by go_simp⟩) hHeld ?_
  simp only [ly, Act.put]
  refine tkn 6 (.pointer (some ⟨j, 33, none⟩)) rfl (by kernel_rfl) (fun _ _ _ h => h) (.inl ⟨by kernel_rfl, fun w _ => by go_simp⟩) hHeld ?_
  simp only [ly, Act.put]
  refine tkn 7 (.int .i64 (st.seq : Int)) rfl (by kernel_rfl) (fun _ _ _ h => h) (.inl ⟨by kernel_rfl, fun V hS => by have c33 := (Holds.cell hS.1 33).trans (jCells_seq hpl.out); go_simp⟩) hHeld ?_
  simp only [ly, Act.put]
  refine tkn 8 (.agg (recV ⟨kd, data⟩).toArray) rfl (by kernel_rfl) (fun _ _ _ h => h) (yieldsIf_load_mid (by kernel_rfl) _ _ rfl _ _ rfl _ _ (fun V hS => h_all hS.2) Tryz.underlying37 rfl (by exact recSizeL _)) hHeld ?_
  simp only [ly, Act.put]
  refine wpAnyH_ready (rs := [9]) (by kernel_rfl) (by simp) (AllReadyH.cons rfl (fun K hK => ?_) AllReadyH.nil)
  have hK' := hid hK
  clear hK
  rw [if_pos (by kernel_rfl)]
  simp only [ly1, ly2, ly3]
  go_simp
  refine (hSe.out _).mono ?_
  rintro e W2 ⟨rfl, hb⟩
  have hJ2 := hid (hJ1.out.below hb hJ1.out.lt)
  have hQ2 := hid (hQ1.out.below hb hQ1.out.lt)
  have hA2 := hid (hA1.out.on hb)
  have hB2 := hid (bup hb hB1.out)
  clear hb hJ1 hQ1 hA1 hB1
  refine hK'.out _ _ (by exact ⟨hJ2.out, hQ2.out⟩) (fun hHeld => ?_)
  clear hK' K
  refine tkn 10 (.tuple #[.string ⟨#[]⟩, .int .i64 800]) rfl (by kernel_rfl) (fun _ _ _ h => h) (yieldsIf_move _ rfl rfl rfl) hHeld ?_
  simp only [ly, Act.put]
  refine tkn 11 (.string ⟨#[]⟩) rfl (by kernel_rfl) (fun _ _ _ h => h) (.inl ⟨by kernel_rfl, fun w _ => by go_simp⟩) hHeld ?_
  simp only [ly, Act.put]
  refine tkn 12 (.int .i64 800) rfl (by kernel_rfl) (fun _ _ _ h => h) (.inl ⟨by kernel_rfl, fun w _ => by go_simp⟩) hHeld ?_
  simp only [ly, Act.put]
  refine tkn 13 (.string ⟨#[]⟩) rfl (by kernel_rfl) (fun _ _ _ h => h) (yieldsIf_assign _ rfl rfl rfl) hHeld ?_
  simp only [ly, Act.put]
  refine tkn 14 (.int .i64 800) rfl (by kernel_rfl) (fun _ _ _ h => h) (yieldsIf_assign _ rfl rfl rfl) hHeld ?_
  simp only [ly, Act.put]
  refine wpAnyH_done (by kernel_rfl) ?_ _
  go_wp2_with fail
  go_ret
  exact ⟨rfl, hB2.out⟩

set_option maxRecDepth 100000 in
set_option maxHeartbeats 4000000 in
theorem append_full (j d r b n : Nat) (D : Dk) (st : JSt) (hp : st.prev.length = 32) (R : Rec) (hm : sealMay (st.seq : Int) R = true) (hu : st.used ≤ n) (hf : n < st.used + wholes (41 + R.data.size)) (w : World) (hJ : JAt w j d st) (hD : DiskAt w d r b n D) :
    Calls Tryz.prog 14 #[.pointer (some ⟨j, 0, none⟩), .agg (recV R).toArray] w fun e w' => e = .returned (.int .i64 801) ∧ Below w.heap.size w w' := by
  obtain ⟨kd, data⟩ := R
  have hp : st.prev.length = 32 := hp
  obtain ⟨g, hg⟩ : ∃ g, w.heap.size = g := ⟨_, rfl⟩
  obtain ⟨W0, hW0⟩ : ∃ V, w.alloc (.cells #[.int .i64 kd, .string data] 37) = V := ⟨_, rfl⟩
  have hb0 : Below w.heap.size w W0 := by rw [← hW0]; exact (Below.refl _ _).alloc (Nat.le_refl _) _
  have hQ0 := hid (show Holds W0 g 37 (recV ⟨kd, data⟩) from by rw [← hW0, ← hg]; exact Holds.new _ 37 #[.int .i64 kd, .string data])
  have hJ0 := hid (show JAt W0 j d st from Holds.below hJ hb0 (Holds.lt hJ))
  have hA0 := hid (hD.on hb0)
  have hB0 := hid hb0
  have hjg := hid (show j < g from by rw [← hg]; exact Holds.lt hJ)
  have hW0' := hid hW0
  have hgw := hid hg
  have hpl := hid hp
  have hSe := hid (fun W => seal_any st.prev hp (st.seq : Int) ⟨kd, data⟩ W)
  obtain ⟨⟨bt, ec⟩, hans⟩ : ∃ a, sealAns st.prev (st.seq : Int) ⟨kd, data⟩ = a := ⟨_, rfl⟩
  rw [hans] at hSe
  have hCp := hid (hash_cells st.prev hp)
  obtain ⟨rfl, rfl⟩ : ec = 0 ∧ recBytes st.prev st.seq kd.toNat data = bt := by
    unfold sealAns at hans
    rw [hm] at hans
    exact ⟨(congrArg Prod.snd hans).symm, congrArg Prod.fst hans⟩
  have hd1024 : data.size ≤ 1024 := (sealMay_iff.1 hm).2.2.2.2
  have hseq : (st.seq : Int) ≤ 4294967295 := (sealMay_iff.1 hm).2.1
  obtain ⟨bt, hbt⟩ : ∃ t, recBytes st.prev st.seq kd.toNat data = t := ⟨_, rfl⟩
  have hbz : bt.size = wholes (41 + data.size) * 64 := by rw [← hbt, recBytes_size]
  obtain ⟨k, hk⟩ : ∃ k, wholes (41 + data.size) = k := ⟨_, rfl⟩
  have hkl : k ≤ 17 := by rw [← hk]; unfold wholes; omega
  have hkg : 41 + data.size ≤ k * 64 := by rw [← hk]; exact wholes_ge _
  rw [hk] at hbz
  rw [hbt] at hSe
  have hn256 := hD.most
  have m1 : IntKind.i64.wrap ((bt.size : Int) / 64) = (k : Int) := by rw [IntWalk.i64_in _ (by omega)]; omega
  have hsec := hid (fun W hd => dkSectors_any d r b n D W hd)
  have hf : n < st.used + wholes (41 + data.size) := hf
  rw [hk] at hf
  obtain ⟨m, hmm⟩ : ∃ m, n - st.used = m := ⟨_, rfl⟩
  have m2 : IntKind.i64.wrap ((n : Int) - (st.used : Int)) = (m : Int) := by rw [IntWalk.i64_in _ (by omega)]; omega
  have m3 : (m : Int) < (k : Int) := by omega
  clear hJ hD hW0 hg hp hans hb0 hm hbt hk hbz hkl hkg hf hu hmm hd1024 hseq hn256
  show Calls Tryz.prog 14 #[.pointer (some ⟨j, 0, none⟩), .agg #[.int .i64 kd, .string data]] w _
  go_enter Tryz.func14, Tryz.ntmps14
  go_wp2_with (first
    | ((with_reducible refine at_slot (some 3) ?_); refine wpList_run rfl (.pointer (some ⟨g, 0, none⟩)) (w.alloc (.cells #[.int .i64 kd, .string data] 37)) (by rw [← hgw.out]; kernel_rfl) ?_; rw [hW0'.out])
    | fail)
  have hb : Below W0.heap.size W0 W0.drew := (Below.refl _ _).drew
  have hJ1 := hid (hJ0.out.below hb hJ0.out.lt)
  have hQ1 := hid (hQ0.out.below hb hQ0.out.lt)
  have hA1 := hid (hA0.out.on hb)
  have hB1 := hid (bup hb hB0.out)
  clear hb hJ0 hQ0 hA0 hB0
  refine wp_region_held_drew (S := fun V => JAt V j d st ∧ Holds V g 37 (recV ⟨kd, data⟩)) (by kernel_rfl) (by exact ⟨hJ1.out, hQ1.out⟩) (fun hHeld => ?_)
  generalize W0.drew = W1 at *
  refine tkn 0 (.pointer (some ⟨j, 0, none⟩)) rfl (by kernel_rfl) (fun _ _ _ h => h) (yieldsIf_move _ rfl rfl rfl) hHeld ?_
  simp only [ly, Act.put]
  refine tkn 1 (.pointer (some ⟨j, 0, none⟩)) rfl (by kernel_rfl) (fun _ _ _ h => h) (.inl ⟨by kernel_rfl, fun w _ => by go_simp⟩) hHeld ?_
  simp only [ly, Act.put]
  refine tkn 2 (.pointer (some ⟨j, 1, none⟩)) rfl (by kernel_rfl) (fun _ _ _ h => h) (.inl ⟨by kernel_rfl, fun w _ => by go_simp⟩) hHeld ?_
  simp only [ly, Act.put]
  refine tkn 3 (.agg (byteCells st.prev).toArray) rfl (by kernel_rfl) (fun _ _ _ h => h) (yieldsIf_load_mid (by kernel_rfl) _ _ rfl _ _ rfl _ _ (fun V hS => jRange hpl.out hS.1) Tryz.underlying55 rfl (by exact hCp.out.size')) hHeld ?_
  simp only [ly, Act.put]
  refine tkn 4 (.pointer (some ⟨j, 0, none⟩)) rfl (by kernel_rfl) (fun _ _ _ h => h) (yieldsIf_move _ rfl rfl rfl) hHeld ?_
  simp only [ly, Act.put]
  refine tkn 5 (.pointer (some ⟨j, 0, none⟩)) rfl (by kernel_rfl) (fun _ _ _ h => h) (.inl ⟨by kernel_rfl, fun w _ => by go_simp⟩) hHeld ?_
  simp only [ly, Act.put]
  refine tkn 6 (.pointer (some ⟨j, 33, none⟩)) rfl (by kernel_rfl) (fun _ _ _ h => h) (.inl ⟨by kernel_rfl, fun w _ => by go_simp⟩) hHeld ?_
  simp only [ly, Act.put]
  refine tkn 7 (.int .i64 (st.seq : Int)) rfl (by kernel_rfl) (fun _ _ _ h => h) (.inl ⟨by kernel_rfl, fun V hS => by have c33 := (Holds.cell hS.1 33).trans (jCells_seq hpl.out); go_simp⟩) hHeld ?_
  simp only [ly, Act.put]
  refine tkn 8 (.agg (recV ⟨kd, data⟩).toArray) rfl (by kernel_rfl) (fun _ _ _ h => h) (yieldsIf_load_mid (by kernel_rfl) _ _ rfl _ _ rfl _ _ (fun V hS => h_all hS.2) Tryz.underlying37 rfl (by exact recSizeL _)) hHeld ?_
  simp only [ly, Act.put]
  refine wpAnyH_ready (rs := [9]) (by kernel_rfl) (by simp) (AllReadyH.cons rfl (fun K hK => ?_) AllReadyH.nil)
  have hK' := hid hK
  clear hK
  rw [if_pos (by kernel_rfl)]
  simp only [ly1, ly2, ly3]
  go_simp
  refine (hSe.out _).mono ?_
  rintro e W2 ⟨rfl, hb⟩
  have hJ2 := hid (hJ1.out.below hb hJ1.out.lt)
  have hQ2 := hid (hQ1.out.below hb hQ1.out.lt)
  have hA2 := hid (hA1.out.on hb)
  have hB2 := hid (bup hb hB1.out)
  clear hb hJ1 hQ1 hA1 hB1
  refine hK'.out _ _ (by exact ⟨hJ2.out, hQ2.out⟩) (fun hHeld => ?_)
  clear hK' K
  refine tkn 10 (.tuple #[.string bt, .int .i64 0]) rfl (by kernel_rfl) (fun _ _ _ h => h) (yieldsIf_move _ rfl rfl rfl) hHeld ?_
  simp only [ly, Act.put]
  refine tkn 11 (.string bt) rfl (by kernel_rfl) (fun _ _ _ h => h) (.inl ⟨by kernel_rfl, fun w _ => by go_simp⟩) hHeld ?_
  simp only [ly, Act.put]
  refine tkn 12 (.int .i64 0) rfl (by kernel_rfl) (fun _ _ _ h => h) (.inl ⟨by kernel_rfl, fun w _ => by go_simp⟩) hHeld ?_
  simp only [ly, Act.put]
  refine tkn 13 (.string bt) rfl (by kernel_rfl) (fun _ _ _ h => h) (yieldsIf_assign _ rfl rfl rfl) hHeld ?_
  simp only [ly, Act.put]
  refine tkn 14 (.int .i64 0) rfl (by kernel_rfl) (fun _ _ _ h => h) (yieldsIf_assign _ rfl rfl rfl) hHeld ?_
  simp only [ly, Act.put]
  refine wpAnyH_done (by kernel_rfl) ?_ _
  go_wp2_with fail
  have hb : Below W2.heap.size W2 W2.drew := (Below.refl _ _).drew
  have hJ3 := hid (hJ2.out.below hb hJ2.out.lt)
  have hQ3 := hid (hQ2.out.below hb hQ2.out.lt)
  have hA3 := hid (hA2.out.on hb)
  have hB3 := hid (bup hb hB2.out)
  clear hb hJ2 hQ2 hA2 hB2
  refine wp_region_held_drew (S := fun V => JAt V j d st ∧ Holds V g 37 (recV ⟨kd, data⟩)) (by kernel_rfl) (by exact ⟨hJ3.out, hQ3.out⟩) (fun hHeld => ?_)
  generalize W2.drew = W3 at *
  refine tkn 0 (.string bt) rfl (by kernel_rfl) (fun _ _ _ h => h) (yieldsIf_move _ rfl rfl rfl) hHeld ?_
  simp only [ly, Act.put]
  refine tkn 1 (.int .i64 (bt.size : Int)) rfl (by kernel_rfl) (fun _ _ _ h => h) (.inl ⟨by kernel_rfl, fun w _ => by go_simp⟩) hHeld ?_
  simp only [ly, Act.put]
  refine tkn 2 (.int .i64 (k : Int)) rfl (by kernel_rfl) (fun _ _ _ h => h) (.inl ⟨by kernel_rfl, fun w _ => by go_simp⟩) hHeld ?_
  simp only [ly, Act.put]
  refine tkn 3 (.pointer (some ⟨j, 0, none⟩)) rfl (by kernel_rfl) (fun _ _ _ h => h) (yieldsIf_move _ rfl rfl rfl) hHeld ?_
  simp only [ly, Act.put]
  refine tkn 4 (.pointer (some ⟨j, 0, none⟩)) rfl (by kernel_rfl) (fun _ _ _ h => h) (.inl ⟨by kernel_rfl, fun w _ => by go_simp⟩) hHeld ?_
  simp only [ly, Act.put]
  refine tkn 5 (.pointer (some ⟨j, 0, none⟩)) rfl (by kernel_rfl) (fun _ _ _ h => h) (.inl ⟨by kernel_rfl, fun w _ => by go_simp⟩) hHeld ?_
  simp only [ly, Act.put]
  refine tkn 6 (.pointer (some ⟨d, 0, none⟩)) rfl (by kernel_rfl) (fun _ _ _ h => h) (.inl ⟨by kernel_rfl, fun V hS => by have c0 := Holds.cK hS.1 0 (.pointer (some ⟨d, 0, none⟩)) rfl; go_simp⟩) hHeld ?_
  simp only [ly, Act.put]
  refine tkn 8 (.pointer (some ⟨j, 0, none⟩)) rfl (by kernel_rfl) (fun _ _ _ h => h) (yieldsIf_move _ rfl rfl rfl) hHeld ?_
  simp only [ly, Act.put]
  refine tkn 9 (.pointer (some ⟨j, 0, none⟩)) rfl (by kernel_rfl) (fun _ _ _ h => h) (.inl ⟨by kernel_rfl, fun w _ => by go_simp⟩) hHeld ?_
  simp only [ly, Act.put]
  refine tkn 10 (.pointer (some ⟨j, 34, none⟩)) rfl (by kernel_rfl) (fun _ _ _ h => h) (.inl ⟨by kernel_rfl, fun w _ => by go_simp⟩) hHeld ?_
  simp only [ly, Act.put]
  refine tkn 11 (.int .i64 (st.used : Int)) rfl (by kernel_rfl) (fun _ _ _ h => h) (.inl ⟨by kernel_rfl, fun V hS => by have c34 := (Holds.cell hS.1 34).trans (jCells_used hpl.out); go_simp⟩) hHeld ?_
  simp only [ly, Act.put]
  refine wpAnyH_ready (rs := [7]) (by kernel_rfl) (by simp) (AllReadyH.cons rfl (fun K hK => ?_) AllReadyH.nil)
  have hK' := hid hK
  clear hK
  rw [if_pos (by kernel_rfl)]
  simp only [ly1, ly2, ly3]
  go_simp
  refine (hsec.out _ hA3.out).mono ?_
  rintro e w' ⟨rfl, rfl⟩
  refine hK'.out _ _ (by exact ⟨hJ3.out, hQ3.out⟩) (fun hHeld => ?_)
  clear hK' K
  refine tkn 12 (.int .i64 (m : Int)) rfl (by kernel_rfl) (fun _ _ _ h => h) (.inl ⟨by kernel_rfl, fun w _ => by go_simp⟩) hHeld ?_
  simp only [ly, Act.put]
  refine tkn 13 (.bool true) rfl (by kernel_rfl) (fun _ _ _ h => h) (.inl ⟨by kernel_rfl, fun w _ => by go_simp⟩) hHeld ?_
  simp only [ly, Act.put]
  refine wpAnyH_done (by kernel_rfl) ?_ _
  go_wp2_with fail
  go_ret
  exact ⟨rfl, hB3.out⟩

set_option maxRecDepth 100000 in
set_option maxHeartbeats 8000000 in
theorem append_ok (j d r b n : Nat) (D : Dk) (st : JSt) (hp : st.prev.length = 32) (R : Rec) (hm : sealMay (st.seq : Int) R = true) (hf : st.used + wholes (41 + R.data.size) ≤ n) (w : World) (hJ : JAt w j d st) (hD : DiskAt w d r b n D) (hj : j ≠ r ∧ j ≠ b ∧ j ≠ d) :
    Calls Tryz.prog 14 #[.pointer (some ⟨j, 0, none⟩), .agg (recV R).toArray] w fun e w' => e = .returned (.int .i64 0) ∧ JAt w' j d (st.pass R (recBytes st.prev st.seq R.kind.toNat R.data)) ∧ DiskAt w' d r b n (writeS D st.used (recBytes st.prev st.seq R.kind.toNat R.data) (wholes (41 + R.data.size))) ∧ TurnS (JS j r b) w w' := by
  obtain ⟨kd, data⟩ := R
  have hp : st.prev.length = 32 := hp
  obtain ⟨g, hg⟩ : ∃ g, w.heap.size = g := ⟨_, rfl⟩
  obtain ⟨W0, hW0⟩ : ∃ V, w.alloc (.cells #[.int .i64 kd, .string data] 37) = V := ⟨_, rfl⟩
  have hb0 : Below w.heap.size w W0 := by rw [← hW0]; exact (Below.refl _ _).alloc (Nat.le_refl _) _
  have hQ0 := hid (show Holds W0 g 37 (recV ⟨kd, data⟩) from by rw [← hW0, ← hg]; exact Holds.new _ 37 #[.int .i64 kd, .string data])
  have hJ0 := hid (show JAt W0 j d st from Holds.below hJ hb0 (Holds.lt hJ))
  have hA0 := hid (hD.on hb0)
  have hB0 := hid hb0
  have hjg := hid (show j < g from by rw [← hg]; exact Holds.lt hJ)
  have hW0' := hid hW0
  have hgw := hid hg
  have hpl := hid hp
  have hSe := hid (fun W => seal_any st.prev hp (st.seq : Int) ⟨kd, data⟩ W)
  obtain ⟨⟨bt, ec⟩, hans⟩ : ∃ a, sealAns st.prev (st.seq : Int) ⟨kd, data⟩ = a := ⟨_, rfl⟩
  rw [hans] at hSe
  have hCp := hid (hash_cells st.prev hp)
  obtain ⟨rfl, rfl⟩ : ec = 0 ∧ recBytes st.prev st.seq kd.toNat data = bt := by
    unfold sealAns at hans
    rw [hm] at hans
    exact ⟨(congrArg Prod.snd hans).symm, congrArg Prod.fst hans⟩
  have hd1024 : data.size ≤ 1024 := (sealMay_iff.1 hm).2.2.2.2
  have hseq : (st.seq : Int) ≤ 4294967295 := (sealMay_iff.1 hm).2.1
  obtain ⟨bt, hbt⟩ : ∃ t, recBytes st.prev st.seq kd.toNat data = t := ⟨_, rfl⟩
  have hbz : bt.size = wholes (41 + data.size) * 64 := by rw [← hbt, recBytes_size]
  obtain ⟨k, hk⟩ : ∃ k, wholes (41 + data.size) = k := ⟨_, rfl⟩
  have hkl : k ≤ 17 := by rw [← hk]; unfold wholes; omega
  have hkg : 41 + data.size ≤ k * 64 := by rw [← hk]; exact wholes_ge _
  rw [hk] at hbz
  rw [hbt] at hSe
  have hn256 := hD.most
  have m1 : IntKind.i64.wrap ((bt.size : Int) / 64) = (k : Int) := by rw [IntWalk.i64_in _ (by omega)]; omega
  have hsec := hid (fun W hd => dkSectors_any d r b n D W hd)
  have hf : st.used + wholes (41 + data.size) ≤ n := hf
  rw [hk] at hf
  show Calls Tryz.prog 14 #[.pointer (some ⟨j, 0, none⟩), .agg (recV ⟨kd, data⟩).toArray] w fun e w' => e = .returned (.int .i64 0) ∧ JAt w' j d (st.pass ⟨kd, data⟩ (recBytes st.prev st.seq kd.toNat data)) ∧ DiskAt w' d r b n (writeS D st.used (recBytes st.prev st.seq kd.toNat data) (wholes (41 + data.size))) ∧ TurnS (JS j r b) w w'
  rw [hbt, hk]
  obtain ⟨m, hmm⟩ : ∃ m, n - st.used = m := ⟨_, rfl⟩
  have m2 : IntKind.i64.wrap ((n : Int) - (st.used : Int)) = (m : Int) := by rw [IntWalk.i64_in _ (by omega)]; omega
  have m3 : ¬ (m : Int) < (k : Int) := by omega
  have m4 : k ≤ m := by omega
  have hbz' := hid hbz
  have hkl' := hid hkl
  have hps := hid (fun V hj => pass_any j d st hp ⟨kd, data⟩ bt (by show 41 + data.size ≤ _; omega) (by omega) (by omega) (by omega) V hj)
  have hdj := hid (show d < g ∧ r < g ∧ b < g from by rw [← hg]; exact hD.lt)
  obtain ⟨u, hu⟩ : ∃ u, st.used = u := ⟨_, rfl⟩
  have hu' := hid hu
  rw [hu] at hf
  clear hJ hD hW0 hg hp hans hb0 hm hbt hk hmm hd1024 hseq hu hbz hkl hkg
  show Calls Tryz.prog 14 #[.pointer (some ⟨j, 0, none⟩), .agg #[.int .i64 kd, .string data]] w _
  go_enter Tryz.func14, Tryz.ntmps14
  go_wp2_with (first
    | ((with_reducible refine at_slot (some 3) ?_); refine wpList_run rfl (.pointer (some ⟨g, 0, none⟩)) (w.alloc (.cells #[.int .i64 kd, .string data] 37)) (by rw [← hgw.out]; kernel_rfl) ?_; rw [hW0'.out])
    | fail)
  have hb : Below W0.heap.size W0 W0.drew := (Below.refl _ _).drew
  have hJ1 := hid (hJ0.out.below hb hJ0.out.lt)
  have hQ1 := hid (hQ0.out.below hb hQ0.out.lt)
  have hA1 := hid (hA0.out.on hb)
  have hB1 := hid (bup hb hB0.out)
  clear hb hJ0 hQ0 hA0 hB0
  refine wp_region_held_drew (S := fun V => JAt V j d st ∧ Holds V g 37 (recV ⟨kd, data⟩)) (by kernel_rfl) (by exact ⟨hJ1.out, hQ1.out⟩) (fun hHeld => ?_)
  generalize W0.drew = W1 at *
  refine tkn 0 (.pointer (some ⟨j, 0, none⟩)) rfl (by kernel_rfl) (fun _ _ _ h => h) (yieldsIf_move _ rfl rfl rfl) hHeld ?_
  simp only [ly, Act.put]
  refine tkn 1 (.pointer (some ⟨j, 0, none⟩)) rfl (by kernel_rfl) (fun _ _ _ h => h) (.inl ⟨by kernel_rfl, fun w _ => by go_simp⟩) hHeld ?_
  simp only [ly, Act.put]
  refine tkn 2 (.pointer (some ⟨j, 1, none⟩)) rfl (by kernel_rfl) (fun _ _ _ h => h) (.inl ⟨by kernel_rfl, fun w _ => by go_simp⟩) hHeld ?_
  simp only [ly, Act.put]
  refine tkn 3 (.agg (byteCells st.prev).toArray) rfl (by kernel_rfl) (fun _ _ _ h => h) (yieldsIf_load_mid (by kernel_rfl) _ _ rfl _ _ rfl _ _ (fun V hS => jRange hpl.out hS.1) Tryz.underlying55 rfl (by exact hCp.out.size')) hHeld ?_
  simp only [ly, Act.put]
  refine tkn 4 (.pointer (some ⟨j, 0, none⟩)) rfl (by kernel_rfl) (fun _ _ _ h => h) (yieldsIf_move _ rfl rfl rfl) hHeld ?_
  simp only [ly, Act.put]
  refine tkn 5 (.pointer (some ⟨j, 0, none⟩)) rfl (by kernel_rfl) (fun _ _ _ h => h) (.inl ⟨by kernel_rfl, fun w _ => by go_simp⟩) hHeld ?_
  simp only [ly, Act.put]
  refine tkn 6 (.pointer (some ⟨j, 33, none⟩)) rfl (by kernel_rfl) (fun _ _ _ h => h) (.inl ⟨by kernel_rfl, fun w _ => by go_simp⟩) hHeld ?_
  simp only [ly, Act.put]
  refine tkn 7 (.int .i64 (st.seq : Int)) rfl (by kernel_rfl) (fun _ _ _ h => h) (.inl ⟨by kernel_rfl, fun V hS => by have c33 := (Holds.cell hS.1 33).trans (jCells_seq hpl.out); go_simp⟩) hHeld ?_
  simp only [ly, Act.put]
  refine tkn 8 (.agg (recV ⟨kd, data⟩).toArray) rfl (by kernel_rfl) (fun _ _ _ h => h) (yieldsIf_load_mid (by kernel_rfl) _ _ rfl _ _ rfl _ _ (fun V hS => h_all hS.2) Tryz.underlying37 rfl (by exact recSizeL _)) hHeld ?_
  simp only [ly, Act.put]
  refine wpAnyH_ready (rs := [9]) (by kernel_rfl) (by simp) (AllReadyH.cons rfl (fun K hK => ?_) AllReadyH.nil)
  have hK' := hid hK
  clear hK
  rw [if_pos (by kernel_rfl)]
  simp only [ly1, ly2, ly3]
  go_simp
  refine (hSe.out _).mono ?_
  rintro e W2 ⟨rfl, hb⟩
  have hJ2 := hid (hJ1.out.below hb hJ1.out.lt)
  have hQ2 := hid (hQ1.out.below hb hQ1.out.lt)
  have hA2 := hid (hA1.out.on hb)
  have hB2 := hid (bup hb hB1.out)
  clear hb hJ1 hQ1 hA1 hB1
  refine hK'.out _ _ (by exact ⟨hJ2.out, hQ2.out⟩) (fun hHeld => ?_)
  clear hK' K
  refine tkn 10 (.tuple #[.string bt, .int .i64 0]) rfl (by kernel_rfl) (fun _ _ _ h => h) (yieldsIf_move _ rfl rfl rfl) hHeld ?_
  simp only [ly, Act.put]
  refine tkn 11 (.string bt) rfl (by kernel_rfl) (fun _ _ _ h => h) (.inl ⟨by kernel_rfl, fun w _ => by go_simp⟩) hHeld ?_
  simp only [ly, Act.put]
  refine tkn 12 (.int .i64 0) rfl (by kernel_rfl) (fun _ _ _ h => h) (.inl ⟨by kernel_rfl, fun w _ => by go_simp⟩) hHeld ?_
  simp only [ly, Act.put]
  refine tkn 13 (.string bt) rfl (by kernel_rfl) (fun _ _ _ h => h) (yieldsIf_assign _ rfl rfl rfl) hHeld ?_
  simp only [ly, Act.put]
  refine tkn 14 (.int .i64 0) rfl (by kernel_rfl) (fun _ _ _ h => h) (yieldsIf_assign _ rfl rfl rfl) hHeld ?_
  simp only [ly, Act.put]
  refine wpAnyH_done (by kernel_rfl) ?_ _
  go_wp2_with fail
  have hb : Below W2.heap.size W2 W2.drew := (Below.refl _ _).drew
  have hJ3 := hid (hJ2.out.below hb hJ2.out.lt)
  have hQ3 := hid (hQ2.out.below hb hQ2.out.lt)
  have hA3 := hid (hA2.out.on hb)
  have hB3 := hid (bup hb hB2.out)
  clear hb hJ2 hQ2 hA2 hB2
  refine wp_region_held_drew (S := fun V => JAt V j d st ∧ Holds V g 37 (recV ⟨kd, data⟩)) (by kernel_rfl) (by exact ⟨hJ3.out, hQ3.out⟩) (fun hHeld => ?_)
  generalize W2.drew = W3 at *
  refine tkn 0 (.string bt) rfl (by kernel_rfl) (fun _ _ _ h => h) (yieldsIf_move _ rfl rfl rfl) hHeld ?_
  simp only [ly, Act.put]
  refine tkn 1 (.int .i64 (bt.size : Int)) rfl (by kernel_rfl) (fun _ _ _ h => h) (.inl ⟨by kernel_rfl, fun w _ => by go_simp⟩) hHeld ?_
  simp only [ly, Act.put]
  refine tkn 2 (.int .i64 (k : Int)) rfl (by kernel_rfl) (fun _ _ _ h => h) (.inl ⟨by kernel_rfl, fun w _ => by go_simp⟩) hHeld ?_
  simp only [ly, Act.put]
  refine tkn 3 (.pointer (some ⟨j, 0, none⟩)) rfl (by kernel_rfl) (fun _ _ _ h => h) (yieldsIf_move _ rfl rfl rfl) hHeld ?_
  simp only [ly, Act.put]
  refine tkn 4 (.pointer (some ⟨j, 0, none⟩)) rfl (by kernel_rfl) (fun _ _ _ h => h) (.inl ⟨by kernel_rfl, fun w _ => by go_simp⟩) hHeld ?_
  simp only [ly, Act.put]
  refine tkn 5 (.pointer (some ⟨j, 0, none⟩)) rfl (by kernel_rfl) (fun _ _ _ h => h) (.inl ⟨by kernel_rfl, fun w _ => by go_simp⟩) hHeld ?_
  simp only [ly, Act.put]
  refine tkn 6 (.pointer (some ⟨d, 0, none⟩)) rfl (by kernel_rfl) (fun _ _ _ h => h) (.inl ⟨by kernel_rfl, fun V hS => by have c0 := Holds.cK hS.1 0 (.pointer (some ⟨d, 0, none⟩)) rfl; go_simp⟩) hHeld ?_
  simp only [ly, Act.put]
  refine tkn 8 (.pointer (some ⟨j, 0, none⟩)) rfl (by kernel_rfl) (fun _ _ _ h => h) (yieldsIf_move _ rfl rfl rfl) hHeld ?_
  simp only [ly, Act.put]
  refine tkn 9 (.pointer (some ⟨j, 0, none⟩)) rfl (by kernel_rfl) (fun _ _ _ h => h) (.inl ⟨by kernel_rfl, fun w _ => by go_simp⟩) hHeld ?_
  simp only [ly, Act.put]
  refine tkn 10 (.pointer (some ⟨j, 34, none⟩)) rfl (by kernel_rfl) (fun _ _ _ h => h) (.inl ⟨by kernel_rfl, fun w _ => by go_simp⟩) hHeld ?_
  simp only [ly, Act.put]
  refine tkn 11 (.int .i64 (st.used : Int)) rfl (by kernel_rfl) (fun _ _ _ h => h) (.inl ⟨by kernel_rfl, fun V hS => by have c34 := (Holds.cell hS.1 34).trans (jCells_used hpl.out); go_simp⟩) hHeld ?_
  simp only [ly, Act.put]
  refine wpAnyH_ready (rs := [7]) (by kernel_rfl) (by simp) (AllReadyH.cons rfl (fun K hK => ?_) AllReadyH.nil)
  have hK' := hid hK
  clear hK
  rw [if_pos (by kernel_rfl)]
  simp only [ly1, ly2, ly3]
  go_simp
  refine (hsec.out _ hA3.out).mono ?_
  rintro e w' ⟨rfl, rfl⟩
  refine hK'.out _ _ (by exact ⟨hJ3.out, hQ3.out⟩) (fun hHeld => ?_)
  clear hK' K
  refine tkn 12 (.int .i64 (m : Int)) rfl (by kernel_rfl) (fun _ _ _ h => h) (.inl ⟨by kernel_rfl, fun w _ => by go_simp⟩) hHeld ?_
  simp only [ly, Act.put]
  refine tkn 13 (.bool false) rfl (by kernel_rfl) (fun _ _ _ h => h) (.inl ⟨by kernel_rfl, fun w _ => by go_simp⟩) hHeld ?_
  simp only [ly, Act.put]
  refine wpAnyH_done (by kernel_rfl) ?_ _
  go_wp2_with fail
  go_loopw [44] (fun ix wr => ∃ i : Nat, i ≤ k ∧ ix = .int .i64 (i : Int) ∧ DiskAt wr d r b n (writeS D u bt i) ∧ Turns W3 wr r (some b)) (fun ix _ => k - (intOf ix).toNat)
  case atStart => exact ⟨0, Nat.zero_le _, rfl, hA3.out, Turns.refl _ _ _⟩
  case round =>
    obtain ⟨i, hik, rfl, hdk, htn⟩ := hrel
    obtain ⟨W20, rfl⟩ : ∃ V, V = wr := ⟨_, rfl⟩
    have hnr := hj
    have hA20 := hid hdk
    have hJ20 := hid (htn.holds hJ3.out hj.1 (fun e => by have := Option.some.inj e; exact hj.2.1 this))
    have hQ20 := hid (htn.holds hQ3.out (by have := hdj.out; omega) (fun e => by have := Option.some.inj e; have := hdj.out; omega))
    have hT20 := hid htn
    clear hdk htn
    by_cases hlt : i < k
    · have hki : (i : Int) < (k : Int) := by omega
      have hbz := hbz'.out
      have hkl := hkl'.out
      have u1 : IntKind.i64.wrap ((u : Int) + (i : Int)) = ((u + i : Nat) : Int) := by rw [IntWalk.i64_in _ (by omega)]; omega
      have u2 := IntWalk.i64_in ((i : Int) + 1) (by omega)
      obtain ⟨lo, hlo⟩ : ∃ x, i * 64 = x := ⟨_, rfl⟩
      obtain ⟨hi, hhi⟩ : ∃ x, (i + 1) * 64 = x := ⟨_, rfl⟩
      have u3 : IntKind.i64.wrap ((i : Int) * 64) = (lo : Int) := by rw [IntWalk.i64_in _ (by omega)]; omega
      have u4 : IntKind.i64.wrap (((i : Int) + 1) * 64) = (hi : Int) := by rw [IntWalk.i64_in _ (by omega)]; omega
      have u5 : (lo : Int) ≤ (hi : Int) := by omega
      have u6 : (hi : Int) ≤ (bt.size : Int) := by omega
      have u7 : (0 : Int) ≤ (lo : Int) := by omega
      have hwr := hid (dkWrite_yes (u + i) (bt.extract lo hi) (by rw [ByteArray.size_extract]; omega) d r b n (writeS D u bt i) (by omega))
      have hnx := hid (show (writeS D u bt i).write (u + i) (bt.extract lo hi) = writeS D u bt (i + 1) from by rw [← hlo, ← hhi]; rfl)
      clear hlo hhi hbz hkl
      go_wp2_with fail
      have hb : Below W20.heap.size W20 W20.drew := (Below.refl _ _).drew
      have hJ21 := hid (hJ20.out.below hb hJ20.out.lt)
      have hQ21 := hid (hQ20.out.below hb hQ20.out.lt)
      have hA21 := hid (hA20.out.on hb)
      have hT21 := hid (tr_up hb hT20.out)
      clear hb hJ20 hQ20 hA20 hT20
      refine wp_region_held_drew (S := fun V => JAt V j d st ∧ Holds V g 37 (recV ⟨kd, data⟩)) (by kernel_rfl) (by exact ⟨hJ21.out, hQ21.out⟩) (fun hHeld => ?_)
      generalize W20.drew = W21 at *
      refine tkn 0 (.pointer (some ⟨j, 0, none⟩)) rfl (by kernel_rfl) (fun _ _ _ h => h) (yieldsIf_move _ rfl rfl rfl) hHeld ?_
      simp only [ly, Act.put]
      refine tkn 1 (.pointer (some ⟨j, 0, none⟩)) rfl (by kernel_rfl) (fun _ _ _ h => h) (.inl ⟨by kernel_rfl, fun w _ => by go_simp⟩) hHeld ?_
      simp only [ly, Act.put]
      refine tkn 2 (.pointer (some ⟨j, 0, none⟩)) rfl (by kernel_rfl) (fun _ _ _ h => h) (.inl ⟨by kernel_rfl, fun w _ => by go_simp⟩) hHeld ?_
      simp only [ly, Act.put]
      refine tkn 3 (.pointer (some ⟨d, 0, none⟩)) rfl (by kernel_rfl) (fun _ _ _ h => h) (.inl ⟨by kernel_rfl, fun V hS => by have c0 := Holds.cK hS.1 0 (.pointer (some ⟨d, 0, none⟩)) rfl; go_simp⟩) hHeld ?_
      simp only [ly, Act.put]
      refine tkn 4 (.pointer (some ⟨j, 0, none⟩)) rfl (by kernel_rfl) (fun _ _ _ h => h) (yieldsIf_move _ rfl rfl rfl) hHeld ?_
      simp only [ly, Act.put]
      refine tkn 5 (.pointer (some ⟨j, 0, none⟩)) rfl (by kernel_rfl) (fun _ _ _ h => h) (.inl ⟨by kernel_rfl, fun w _ => by go_simp⟩) hHeld ?_
      simp only [ly, Act.put]
      refine tkn 6 (.pointer (some ⟨j, 34, none⟩)) rfl (by kernel_rfl) (fun _ _ _ h => h) (.inl ⟨by kernel_rfl, fun w _ => by go_simp⟩) hHeld ?_
      simp only [ly, Act.put]
      refine tkn 7 (.int .i64 (u : Int)) rfl (by kernel_rfl) (fun _ _ _ h => h) (.inl ⟨by kernel_rfl, fun V hS => by have c34 := (Holds.cell hS.1 34).trans (jCells_used hpl.out); rw [hu'.out] at c34; go_simp⟩) hHeld ?_
      simp only [ly, Act.put]
      refine tkn 8 (.int .i64 (i : Int)) rfl (by kernel_rfl) (fun _ _ _ h => h) (yieldsIf_move _ rfl rfl rfl) hHeld ?_
      simp only [ly, Act.put]
      refine tkn 9 (.int .i64 ((u + i : Nat) : Int)) rfl (by kernel_rfl) (fun _ _ _ h => h) (.inl ⟨by kernel_rfl, fun w _ => by go_simp⟩) hHeld ?_
      simp only [ly, Act.put]
      refine tkn 10 (.string bt) rfl (by kernel_rfl) (fun _ _ _ h => h) (yieldsIf_move _ rfl rfl rfl) hHeld ?_
      simp only [ly, Act.put]
      refine tkn 11 (.int .i64 (i : Int)) rfl (by kernel_rfl) (fun _ _ _ h => h) (yieldsIf_move _ rfl rfl rfl) hHeld ?_
      simp only [ly, Act.put]
      refine tkn 12 (.int .i64 (lo : Int)) rfl (by kernel_rfl) (fun _ _ _ h => h) (.inl ⟨by kernel_rfl, fun w _ => by go_simp⟩) hHeld ?_
      simp only [ly, Act.put]
      refine tkn 13 (.int .i64 (i : Int)) rfl (by kernel_rfl) (fun _ _ _ h => h) (yieldsIf_move _ rfl rfl rfl) hHeld ?_
      simp only [ly, Act.put]
      refine tkn 14 (.int .i64 ((i : Int) + 1)) rfl (by kernel_rfl) (fun _ _ _ h => h) (.inl ⟨by kernel_rfl, fun w _ => by go_simp⟩) hHeld ?_
      simp only [ly, Act.put]
      refine tkn 15 (.int .i64 (hi : Int)) rfl (by kernel_rfl) (fun _ _ _ h => h) (.inl ⟨by kernel_rfl, fun w _ => by go_simp⟩) hHeld ?_
      simp only [ly, Act.put]
      refine tkn 16 (.string (bt.extract lo hi)) rfl (by kernel_rfl) (fun _ _ _ h => h) (.inl ⟨by kernel_rfl, fun w _ => by go_simp⟩) hHeld ?_
      simp only [ly, Act.put]
      refine wpAnyH_ready (rs := [17]) (by kernel_rfl) (by simp) (AllReadyH.cons rfl (fun K hK => ?_) AllReadyH.nil)
      have hK' := hid hK
      clear hK
      rw [if_pos (by kernel_rfl)]
      simp only [ly1, ly2, ly3]
      go_simp
      refine (hwr.out _ hA21.out).mono ?_
      rintro e W22 ⟨rfl, hA, hT⟩
      rw [hnx.out] at hA
      have hA22 := hid hA
      have hJ22 := hid (hT.holds hJ21.out hj.1 (fun e => by have := Option.some.inj e; exact hj.2.1 this))
      have hQ22 := hid (hT.holds hQ21.out (by have := hdj.out; omega) (fun e => by have := Option.some.inj e; have := hdj.out; omega))
      have hT22 := hid (tr_on hT21.out hT)
      clear hA hT hA21 hJ21 hQ21 hT21
      refine hK'.out _ _ (by exact ⟨hJ22.out, hQ22.out⟩) (fun hHeld => ?_)
      clear hK' K
      refine tkn 18 (.int .i64 0) rfl (by kernel_rfl) (fun _ _ _ h => h) (yieldsIf_assign _ rfl rfl rfl) hHeld ?_
      simp only [ly, Act.put]
      refine wpAnyH_done (by kernel_rfl) ?_ _
      go_wp2_with fail
      go_roundw
      case rel => exact ⟨i + 1, by omega, by go_num, hA22.out, hT22.out⟩
      case measure => simp [intOf]; omega
    · obtain rfl : i = k := by omega
      have hki : ¬ (i : Int) < (i : Int) := by omega
      go_wp2_with (first
        | ((with_reducible refine at_slot (some 70) ?_); refine wpList_load_mid rfl 37 (.tmp 3) rfl g 0 rfl (recV ⟨kd, data⟩) _ (by exact h_all hQ20.out) Tryz.underlying37 rfl (by exact recSizeL _) ?_)
        | fail)
      refine (hps.out _ hJ20.out).mono ?_
      rintro e W21 ⟨rfl, hjn, htn⟩
      have hJ21 := hid hjn
      have hA21 := hid (hA20.out.turned htn ⟨fun e => hj.2.2 e.symm, fun e => hj.1 e.symm, fun e => hj.2.1 e.symm⟩ ⟨fun e => (by cases e), fun e => (by cases e), fun e => (by cases e)⟩)
      have hT21 := hid ((TurnS.of_below hB3.out).trans ((turnS_of (S := JS j r b) hT20.out (.inr (.inl rfl)) (fun k e => .inr (.inr (Option.some.inj e).symm))).trans (turnS_of htn (.inl rfl) (fun k e => by cases e))))
      go_wp2_with fail
      go_ret
      exact ⟨rfl, hJ21.out, by rw [hu'.out]; exact hA21.out, hT21.out⟩


end Go.Proofs.YtmgaegaibglnhaaGreat
