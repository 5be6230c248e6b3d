/- Layer 14: is it a table? -/
import Derived.Test.YtapegklffglnoaaInoW
namespace Go.Proofs.Ytapegklffglnoaa
open Go.RowKit

theorem Inos.at_ {w : World} {B : Nat} {A : Option Addr} {n : Nat} {xs : List Ino} (h : Inos w B A n xs) : n = 0 ∨ ∃ p : Addr, A = some p := by
  rcases h.2.2 with h | ⟨p, hp, _⟩
  · exact .inl h
  · exact .inr ⟨p, hp⟩

set_option maxRecDepth 100000 in
set_option maxHeartbeats 4000000 in
theorem risingIno_any (A : Option Addr) (n c B : Nat) (xs : List Ino) (w : World) (h : Inos w B A n xs) (hB : B ≤ w.heap.size) (hn : n ≤ 10000000000000) :
    Calls Try.prog 88 #[.slice A n c, .func (.func 89) #[] #[]] w (MayPost (risesB xs) w) := by
  obtain ⟨R, hR⟩ : ∃ R, risesB xs = R := ⟨_, rfl⟩
  rw [hR]
  have hR' := hid hR
  have h' := hid h
  have hlen := h.1
  clear hR h
  go_enter Try.func88, Try.ntmps88
  go_wp2_with fail
  go_loopw [5] (fun i wr => ∃ k : Nat, 1 ≤ k ∧ k ≤ n + 1 ∧ i = .int .i64 (k : Int) ∧ Below w.heap.size w wr ∧ RisesTo k xs) (fun i _ => n + 1 - (intOf i).toNat)
  case atStart => exact ⟨1, Nat.le_refl _, by omega, rfl, Below.refl _ _, fun i a b hi _ _ => by omega⟩
  case round =>
    obtain ⟨k, hk1, hk, rfl, hBr, hris⟩ := hrel
    have hris' := hid hris
    have hBr' := hid hBr
    clear hris
    by_cases hlt : k < n
    · have hX := h'.out.below (hBr.mono hB)
      obtain ⟨p, a, hpA, hpB, ha, hfa, hca⟩ := hX.get (k := k - 1) (by omega)
      obtain ⟨p2, b, hpA2, _, hb, hfb, hcb⟩ := hX.get (k := k) hlt
      subst hpA
      obtain rfl : p = p2 := by injection hpA2
      have hlt' : (k : Int) < (n : Int) := by omega
      have hs1 := IntWalk.i64_in ((k : Int) - 1) (by omega)
      have hs2 : ((k : Int) - 1).toNat = k - 1 := by omega
      have hs3 : (0 : Int) ≤ (k : Int) - 1 := by omega
      have hs4 : (k : Int) - 1 < (n : Int) := by omega
      have hs5 : (0 : Int) ≤ (k : Int) := by omega
      have hs6 : (1 : Int) ≤ (k : Int) := by omega
      have hi1 : (Try.prog.info? 78).map (·.size) = some a.cells.length := by rw [Ino.len hfa]; exact Try.infoIno
      have hi2 : (Try.prog.info? 78).map (·.size) = some b.cells.length := by rw [Ino.len hfb]; exact Try.infoIno
      have hca' := hid hca
      have hcb' := hid hcb
      have hX' := hid hX
      have ha' := hid ha
      have hb' := hid hb
      clear hX hBr hca hcb ha hb
      go_wp2_with fail
      refine wp_region_held_drew (S := fun W => (∀ j v, a.cells[j]? = some v → W.cell? ((p.add ((k - 1) * 37)).add j) = some v) ∧ (∀ j v, b.cells[j]? = some v → W.cell? ((p.add (k * 37)).add j) = some v)) (by kernel_rfl) (by exact ⟨hca'.out, hcb'.out⟩) (fun hHeld => ?_)
      refine wpAnyH_take (i := 0) (v := .func (.func 89) #[] #[]) rfl (by kernel_rfl) (by kernel_rfl) (by kernel_rfl) (fun _ _ _ h => h) (yieldsIf_move _ rfl rfl rfl) hHeld ?_
      simp only [ly1, ly2, ly3, Act.put, ly5, ly6, ly7]
      refine wpAnyH_take (i := 1) (v := .slice (some p) n c) rfl (by kernel_rfl) (by kernel_rfl) (by kernel_rfl) (fun _ _ _ h => h) (yieldsIf_move _ rfl rfl rfl) hHeld ?_
      simp only [ly1, ly2, ly3, Act.put, ly5, ly6, ly7]
      refine wpAnyH_take (i := 2) (v := .int .i64 (k : Int)) rfl (by kernel_rfl) (by kernel_rfl) (by kernel_rfl) (fun _ _ _ h => h) (yieldsIf_move _ rfl rfl rfl) hHeld ?_
      simp only [ly1, ly2, ly3, Act.put, ly5, ly6, ly7]
      refine wpAnyH_take (i := 3) (v := .int .i64 ((k : Int) - 1)) rfl (by kernel_rfl) (by kernel_rfl) (by kernel_rfl) (fun _ _ _ h => h) (.inl ⟨by kernel_rfl, fun w _ => by go_simp⟩) hHeld ?_
      simp only [ly1, ly2, ly3, Act.put, ly5, ly6, ly7]
      refine wpAnyH_take (i := 4) (v := .pointer (some (p.add ((k - 1) * 37)))) rfl (by kernel_rfl) (by kernel_rfl) (by kernel_rfl) (fun _ _ _ h => h) (.inl ⟨by kernel_rfl, fun w _ => by go_simp⟩) hHeld ?_
      simp only [ly1, ly2, ly3, Act.put, ly5, ly6, ly7]
      refine wpAnyH_take (i := 5) (v := .agg a.cells.toArray) rfl (by kernel_rfl) (by kernel_rfl) (by kernel_rfl) (fun _ _ _ h => h) (yieldsIf_load_any (by kernel_rfl) _ _ rfl _ rfl _ _ (fun w hw => hw.1) Try.underlying78 rfl hi1) hHeld ?_
      simp only [ly1, ly2, ly3, Act.put, ly5, ly6, ly7]
      refine wpAnyH_take (i := 7) (v := .func (.func 89) #[] #[]) rfl (by kernel_rfl) (by kernel_rfl) (by kernel_rfl) (fun _ _ _ h => h) (yieldsIf_move _ rfl rfl rfl) hHeld ?_
      simp only [ly1, ly2, ly3, Act.put, ly5, ly6, ly7]
      refine wpAnyH_take (i := 8) (v := .slice (some p) n c) rfl (by kernel_rfl) (by kernel_rfl) (by kernel_rfl) (fun _ _ _ h => h) (yieldsIf_move _ rfl rfl rfl) hHeld ?_
      simp only [ly1, ly2, ly3, Act.put, ly5, ly6, ly7]
      refine wpAnyH_take (i := 9) (v := .int .i64 (k : Int)) rfl (by kernel_rfl) (by kernel_rfl) (by kernel_rfl) (fun _ _ _ h => h) (yieldsIf_move _ rfl rfl rfl) hHeld ?_
      simp only [ly1, ly2, ly3, Act.put, ly5, ly6, ly7]
      refine wpAnyH_take (i := 10) (v := .pointer (some (p.add (k * 37)))) rfl (by kernel_rfl) (by kernel_rfl) (by kernel_rfl) (fun _ _ _ h => h) (.inl ⟨by kernel_rfl, fun w _ => by go_simp⟩) hHeld ?_
      simp only [ly1, ly2, ly3, Act.put, ly5, ly6, ly7]
      refine wpAnyH_take (i := 11) (v := .agg b.cells.toArray) rfl (by kernel_rfl) (by kernel_rfl) (by kernel_rfl) (fun _ _ _ h => h) (yieldsIf_load_any (by kernel_rfl) _ _ rfl _ rfl _ _ (fun w hw => hw.2) Try.underlying78 rfl hi2) hHeld ?_
      simp only [ly1, ly2, ly3, Act.put, ly5, ly6, ly7]
      refine wpAnyH_ready (rs := [6]) (by kernel_rfl) (by simp) (AllReadyH.cons rfl (fun K hK => ?_) AllReadyH.nil)
      have hK' := hid hK
      clear hK
      rw [if_pos (by kernel_rfl)]
      simp only [ly1, ly2, ly3]
      go_simp
      refine (numOf_any a _).mono ?_
      rintro e w1 ⟨rfl, hb1⟩
      have hS1 : (∀ j v, a.cells[j]? = some v → w1.cell? ((p.add ((k - 1) * 37)).add j) = some v) ∧ (∀ j v, b.cells[j]? = some v → w1.cell? ((p.add (k * 37)).add j) = some v) := ⟨fun j v hv => (hb1.cell (by rw [add_block, add_block]; exact Nat.lt_of_lt_of_le hpB (Nat.le_trans hB hBr'.out.size))).trans (hca'.out j v hv), fun j v hv => (hb1.cell (by rw [add_block, add_block]; exact Nat.lt_of_lt_of_le hpB (Nat.le_trans hB hBr'.out.size))).trans (hcb'.out j v hv)⟩
      refine hK'.out _ _ (by exact hS1) (fun hHeld => ?_)
      clear hK' K
      refine wpAnyH_ready (rs := [12]) (by kernel_rfl) (by simp) (AllReadyH.cons rfl (fun K hK => ?_) AllReadyH.nil)
      have hK' := hid hK
      clear hK
      rw [if_pos (by kernel_rfl)]
      simp only [ly1, ly2, ly3]
      go_simp
      refine (numOf_any b _).mono ?_
      rintro e w2 ⟨rfl, hb2⟩
      have hS2 : (∀ j v, a.cells[j]? = some v → w2.cell? ((p.add ((k - 1) * 37)).add j) = some v) ∧ (∀ j v, b.cells[j]? = some v → w2.cell? ((p.add (k * 37)).add j) = some v) := ⟨fun j v hv => (hb2.cell (by rw [add_block, add_block]; exact Nat.lt_of_lt_of_le hpB (Nat.le_trans hB (Nat.le_trans hBr'.out.size hb1.size)))).trans (hS1.1 j v hv), fun j v hv => (hb2.cell (by rw [add_block, add_block]; exact Nat.lt_of_lt_of_le hpB (Nat.le_trans hB (Nat.le_trans hBr'.out.size hb1.size)))).trans (hS1.2 j v hv)⟩
      refine hK'.out _ _ (by exact hS2) (fun hHeld => ?_)
      clear hK' K
      have hBf := hid ((hBr'.out.trans (show Below w.heap.size wr w1 from (show Below wr.heap.size wr w1 from ⟨hb1.os, hb1.tape, hb1.output, hb1.size, hb1.block⟩).mono hBr'.out.size)).trans (hb2.mono (Nat.le_trans hBr'.out.size hb1.size)))
      clear hb1 hb2 hS1 hS2
      by_cases hab : a.num < b.num
      · have hab' : ¬ b.num ≤ a.num := by omega
        have hdec : decide (b.num ≤ a.num) = false := by simp; omega
        refine wpAnyH_take (i := 13) (v := .bool false) rfl (by kernel_rfl) (by kernel_rfl) (by kernel_rfl) (fun _ _ _ h => h) (.inl ⟨by kernel_rfl, fun w _ => by go_simp⟩) hHeld ?_
        simp only [ly1, ly2, ly3, Act.put, ly5, ly6, ly7]
        refine wpAnyH_done (by kernel_rfl) ?_ _
        have hnx := hid (hris'.out.next hk1 ha'.out hb'.out hab)
        clear hab
        go_wp2_with fail
        go_roundw
        case rel => exact ⟨k + 1, by omega, by omega, by go_num, hBf.out, hnx.out⟩
        case measure => simp [intOf]; omega
      · have hab' : b.num ≤ a.num := by omega
        have hdec : decide (b.num ≤ a.num) = true := by simp; omega
        refine wpAnyH_take (i := 13) (v := .bool true) rfl (by kernel_rfl) (by kernel_rfl) (by kernel_rfl) (fun _ _ _ h => h) (.inl ⟨by kernel_rfl, fun w _ => by go_simp⟩) hHeld ?_
        simp only [ly1, ly2, ly3, Act.put, ly5, ly6, ly7]
        refine wpAnyH_done (by kernel_rfl) ?_ _
        have hfin : R = false := by
          rw [← hR'.out]
          refine risesB_no fun hall => hab (hall (k - 1) a b (by omega) ha'.out ?_)
          have e : k - 1 + 1 = k := by omega
          rw [e]
          exact hb'.out
        subst hfin
        clear hab
        go_wp2_with fail
        go_ret
        exact ⟨rfl, hBf.out⟩
    · have hfin : R = true := by
        rw [← hR'.out]
        refine risesB_yes fun i a b hi => hris'.out i a b (by omega)
      subst hfin
      have hlt' : ¬ (k : Int) < (n : Int) := by omega
      go_wp2_with fail
      go_ret
      exact ⟨rfl, hBr'.out⟩

/-- The zeros of an inode. -/
def z37 : Array Value := Array.replicate 5 (.int .i64 0) ++ Array.replicate 32 (.int .u8 0)

theorem Ino.one (x : Ino) : x.cells.toArray.all (·.oneCell') = true := by
  rw [Array.all_eq_true]
  intro i hi
  have hm : x.cells.toArray[i] ∈ x.cells := by simp
  generalize x.cells.toArray[i] = v at hm ⊢
  unfold Ino.cells at hm
  rcases List.mem_append.1 hm with h | h
  · simp at h
    rcases h with rfl | rfl | rfl | rfl | rfl <;> rfl
  · exact Go.Lib.strCells_oneCell _ v h

/-- A variable of an inode, just made. -/
theorem ino_var {w W1 : World} {x : Ino} (hx : x.fine) (h : (w.alloc (.cells z37 78)).setCells w.heap.size 0 x.cells = W1) : Holds W1 w.heap.size 78 x.cells ∧ Below w.heap.size w W1 := by
  have h0 := Holds.new w 78 z37
  have hl : z37.toList.length = 37 := by decide
  have h1 := h0.put 0 x.cells (by rw [Ino.len hx, hl]; decide)
  rw [put_all _ _ (by rw [Ino.len hx, hl]), h] at h1
  refine ⟨h1, ?_⟩
  rw [← h]
  exact below_setCells ((Below.refl _ _).alloc (Nat.le_refl _) _) _ _ _ (Nat.le_refl _)
theorem ino_there (w : World) {x : Ino} (hx : x.fine) : (w.alloc (.cells z37 78)).there w.heap.size 0 x.cells.toArray.size := by
  refine (Holds.new w 78 z37).there 0 _ ?_
  rw [List.size_toArray, Ino.len hx]
  decide
theorem ino_size {x : Ino} (hx : x.fine) : (Try.prog.info? 78).map (·.size) = some x.cells.toArray.size := by rw [List.size_toArray, Ino.len hx]; exact Try.infoIno
theorem holds_range {w : World} {g : Nat} {t : TypeId} {cs : List Value} (h : Holds w g t cs) : w.rangeAt g 0 cs := h.range 0 cs (fun j _ => by rw [Nat.zero_add])

set_option maxRecDepth 100000 in
set_option maxHeartbeats 4000000 in
theorem itabMay_any (A : Option Addr) (n c B : Nat) (xs : List Ino) (w : World) (h : Inos w B A n xs) (hB : B ≤ w.heap.size) (hn : n ≤ 10000000000000) :
    Calls Try.prog 44 #[.slice A n c] w (MayPost (itabB xs) w) := by
  obtain ⟨R, hR⟩ : ∃ R, itabB xs = R := ⟨_, rfl⟩
  rw [hR]
  have hR' := hid hR
  have h' := hid h
  have hlen := h.1
  have hris := hid (fun W (hW : Inos W B A n xs) (hBW : B ≤ W.heap.size) => risingIno_any A n c B xs W hW hBW hn)
  clear hR h
  go_enter Try.func44, Try.ntmps44
  go_wp2_with fail
  go_loopw [7] (fun i wr => ∃ k : Nat, k ≤ n ∧ i = .int .i64 (k : Int) ∧ Below w.heap.size w wr ∧ ∀ j x, j < k → xs[j]? = some x → x.may = true) (fun i _ => n - (intOf i).toNat)
  case atStart => exact ⟨0, Nat.zero_le _, rfl, Below.refl _ _, fun j x hj _ => by omega⟩
  case round =>
    obtain ⟨k, hk, rfl, hBr, hok⟩ := hrel
    have hok' := hid hok
    have hBr' := hid hBr
    clear hok
    by_cases hlt : k < n
    · obtain ⟨p, a, hpA, hpB, ha, hfa, hca⟩ := (h'.out.below (hBr.mono hB)).get (k := k) hlt
      subst hpA
      have hlt' : (k : Int) < (n : Int) := by omega
      have hi1 : (Try.prog.info? 78).map (·.size) = some a.cells.length := by rw [Ino.len hfa]; exact Try.infoIno
      have hca' := hid hca
      have ha' := hid ha
      clear hBr hca ha
      have hth := ino_there wr hfa
      have hsz := ino_size hfa
      have hone := a.one
      go_wp2_with (first
        | ((with_reducible refine at_slot (some 10) ?_); refine wpList_load_any rfl _ _ rfl _ rfl _ _ (by exact hca'.out) Try.underlying78 rfl hi1 ?_)
        | ((with_reducible refine at_slot (some 4) ?_); refine wpList_run rfl (.pointer (some ⟨wr.heap.size, 0, none⟩)) (wr.alloc (.cells z37 78)) (by kernel_rfl) ?_)
        | ((with_reducible refine at_slot none ?_); refine wpList_store_mid rfl 78 (.tmp 4) (.tmp 10) rfl wr.heap.size 0 a.cells.toArray rfl rfl (by exact hth) (by exact hsz) (by exact hone) ?_; obtain ⟨W1, hW1⟩ : ∃ W1, (wr.alloc (.cells z37 78)).setCells wr.heap.size 0 a.cells = W1 := ⟨_, rfl⟩; obtain ⟨hv, hb1⟩ := ino_var hfa hW1; rw [hW1]; have hvr := holds_range hv; have hb1' := hid hb1; clear hW1 hv hb1)
        | ((with_reducible refine at_slot (some 11) ?_); refine wpList_load_mid rfl 78 (.tmp 4) rfl wr.heap.size 0 rfl a.cells _ (by exact hvr) Try.underlying78 rfl (by exact hi1) ?_)
        | fail)
      have hW1B : Below w.heap.size w W1 := hBr'.out.trans (hb1'.out.mono hBr'.out.size)
      refine (inodeMay_any a _).mono ?_
      rintro e W2 ⟨rfl, hb2⟩
      have hB2 := hid (hW1B.trans (hb2.mono hW1B.size))
      clear hb2 hW1B
      cases ham : a.may with
      | true =>
        have hok2 := hid (show ∀ j x, j < k + 1 → xs[j]? = some x → x.may = true from fun j x hj hx => by
          by_cases e : j < k
          · exact hok'.out j x e hx
          · have e1 : j = k := by omega
            subst e1
            rw [ha'.out] at hx
            rw [← Option.some.inj hx]
            exact ham)
        clear ham
        go_wp2_with fail
        go_roundw
        case rel => exact ⟨k + 1, by omega, by go_num, hB2.out, hok2.out⟩
        case measure => simp [intOf]; omega
      | false =>
        have hfin : R = false := by
          rw [← hR'.out]
          refine itabB_no fun hall => ?_
          rw [hall.1 a (List.mem_of_getElem? ha'.out)] at ham
          cases ham
        subst hfin
        clear ham
        go_wp2_with fail
        go_ret
        exact ⟨rfl, hB2.out⟩
    · have hlt' : ¬ (k : Int) < (n : Int) := by omega
      have hfin : R = risesB xs := by
        rw [← hR'.out]
        have hall : ∀ x ∈ xs, x.may = true := fun x hx => by
          obtain ⟨j, hj⟩ := List.getElem?_of_mem hx
          exact hok'.out j x (by have := (List.getElem?_eq_some_iff.1 hj).1; omega) hj
        cases hr : risesB xs with
        | true =>
          unfold risesB at hr
          exact itabB_yes ⟨hall, @of_decide_eq_true _ (Classical.propDecidable _) hr⟩
        | false =>
          unfold risesB at hr
          exact itabB_no fun h => (@of_decide_eq_false _ (Classical.propDecidable _) hr) h.2
      have hr := hid (hris.out wr (h'.out.below (hBr.mono hB)) (Nat.le_trans hB hBr.size))
      rw [← hfin] at hr
      clear hfin hBr
      go_wp2_with fail
      refine hr.out.mono ?_
      rintro e W2 ⟨rfl, hb2⟩
      have hB2 := hid (hBr'.out.trans (hb2.mono hBr'.out.size))
      clear hb2
      go_wp2_with fail
      go_ret
      exact ⟨rfl, hB2.out⟩

end Go.Proofs.Ytapegklffglnoaa
