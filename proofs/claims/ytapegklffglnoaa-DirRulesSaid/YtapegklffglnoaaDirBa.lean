/- Layer 13: entries of a directory: their cells; what a directory is (on plain things).
   Layer 13: is it a directory?
   Layer 13: a directory's entries written; Put. -/
import Derived.Test.YtapegklffglnoaaCodR
import Derived.Test.YtapegklffglnoaaAts
import Derived.Test.YtapegklffglnoaaPth
import Derived.Test.YtapegklffglnoaaPthA
import Derived.Test.YtapegklffglnoaaYields
import Derived.Test.YtapegklffglnoaaCod
namespace Go.Proofs.Ytapegklffglnoaa
open Go.RowKit

structure Ent where
  name : ByteArray
  owner : Int
  num : Int

def Ent.cells (e : Ent) : List Value := [.string e.name, .int .i64 e.owner, .int .i64 e.num]
def Ent.fine (e : Ent) : Prop := e.name.size ≤ 140737488351232
theorem Ent.len (e : Ent) : e.cells.length = 3 := rfl
theorem Ent.one (x : Ent) : x.cells.toArray.all (·.oneCell') = true := by simp [Ent.cells, Value.oneCell']
theorem Ent.ones (x : Ent) : ∀ u ∈ x.cells, u.oneCell' = true := fun u hu => by
  unfold Ent.cells at hu
  simp at hu
  rcases hu with rfl | rfl | rfl <;> rfl

/-- The slice at A reads as these entries. -/
def Ents (w : World) (B : Nat) (A : Option Addr) (n : Nat) (xs : List Ent) : Prop :=
  xs.length = n ∧ (∀ a ∈ xs, a.fine) ∧ (n = 0 ∨ ∃ p : Addr, A = some p ∧ p.block < B ∧ ∀ i (hi : i < xs.length), ∀ j v, xs[i].cells[j]? = some v → w.cell? ((p.add (i * 3)).add j) = some v)

theorem Ents.below {w w' : World} {B : Nat} {A : Option Addr} {n : Nat} {xs : List Ent} (h : Ents w B A n xs) (hb : Below B w w') : Ents w' B A n xs := by
  obtain ⟨h1, h2, h3⟩ := h
  refine ⟨h1, h2, ?_⟩
  rcases h3 with h3 | ⟨p, hA, hB, hc⟩
  · exact .inl h3
  · exact .inr ⟨p, hA, hB, fun i hi j v hv => (hb.cell (by rw [add_block, add_block]; exact hB)).trans (hc i hi j v hv)⟩

theorem Ents.more {w : World} {B B' : Nat} {A : Option Addr} {n : Nat} {xs : List Ent} (h : Ents w B A n xs) (hB : B ≤ B') : Ents w B' A n xs := by
  obtain ⟨h1, h2, h3⟩ := h
  refine ⟨h1, h2, ?_⟩
  rcases h3 with h3 | ⟨p, hA, hb, hc⟩
  · exact .inl h3
  · exact .inr ⟨p, hA, Nat.lt_of_lt_of_le hb hB, hc⟩

theorem Ents.get {w : World} {B : Nat} {A : Option Addr} {n : Nat} {xs : List Ent} (h : Ents w B A n xs) {k : Nat} (hk : k < n) : ∃ p x, A = some p ∧ p.block < B ∧ xs[k]? = some x ∧ x.fine ∧ ∀ j v, x.cells[j]? = some v → w.cell? ((p.add (k * 3)).add j) = some v := by
  obtain ⟨h1, h2, h3 | ⟨p, hA, hB, hc⟩⟩ := h
  · omega
  · exact ⟨p, xs[k]'(by omega), hA, hB, List.getElem?_eq_getElem _, h2 _ (List.getElem_mem _), hc k (by omega)⟩

theorem Ents.at_ {w : World} {B : Nat} {A : Option Addr} {n : Nat} {xs : List Ent} (h : Ents w B A n xs) : n = 0 ∨ ∃ p : Addr, A = some p := by
  rcases h.2.2 with h | ⟨p, hp, _⟩
  · exact .inl h
  · exact .inr ⟨p, hp⟩
theorem Ents.nil (w : World) (B : Nat) (A : Option Addr) : Ents w B A 0 [] := ⟨rfl, fun a ha => (by cases ha), .inl rfl⟩

theorem Try.infoEnt : (Try.prog.info? 60).map (·.size) = some 3 := by kernel_rfl
theorem Try.infoEntI : (Try.prog.info? 60).map (fun i => (i.zero, i.size, i.bytes)) = some (some (.agg #[.string ByteArray.empty, .int .i64 0, .int .i64 0]), 3, 32) := by kernel_rfl

/-! The order of names. -/
def lessB (a b : ByteArray) : Bool := Op.bytesLess a.toList b.toList
theorem less_irr : ∀ l : List UInt8, Op.bytesLess l l = false
  | [] => rfl
  | a :: l => by
    have ih := less_irr l
    have h : ¬ a < a := by rw [UInt8.lt_iff_toNat_lt]; omega
    simp [Op.bytesLess, h, ih]
theorem less_trans : ∀ a b c : List UInt8, Op.bytesLess a b = true → Op.bytesLess b c = true → Op.bytesLess a c = true
  | _, _, [], _, h => by cases h' : ‹List UInt8› <;> simp [Op.bytesLess] at h
  | [], _, _ :: _, _, _ => rfl
  | _ :: _, [], _ :: _, h, _ => by simp [Op.bytesLess] at h
  | a :: x, b :: y, c :: z, h1, h2 => by
    simp only [Op.bytesLess, Bool.or_eq_true, decide_eq_true_eq, Bool.and_eq_true, beq_iff_eq] at h1 h2 ⊢
    rcases h1 with h1 | ⟨rfl, h1⟩
    · rcases h2 with h2 | ⟨rfl, _⟩
      · left; rw [UInt8.lt_iff_toNat_lt] at *; omega
      · exact .inl h1
    · rcases h2 with h2 | ⟨rfl, h2⟩
      · exact .inl h2
      · exact .inr ⟨rfl, less_trans x y z h1 h2⟩
theorem less_or : ∀ a b : List UInt8, Op.bytesLess a b = true ∨ a = b ∨ Op.bytesLess b a = true
  | [], [] => .inr (.inl rfl)
  | [], _ :: _ => .inl rfl
  | _ :: _, [] => .inr (.inr rfl)
  | a :: x, b :: y => by
    simp only [Op.bytesLess, Bool.or_eq_true, decide_eq_true_eq, Bool.and_eq_true, beq_iff_eq]
    by_cases h : a = b
    · subst h
      rcases less_or x y with h | rfl | h
      · exact .inl (.inr ⟨rfl, h⟩)
      · exact .inr (.inl rfl)
      · exact .inr (.inr (.inr ⟨rfl, h⟩))
    · have hn : a.toNat ≠ b.toNat := fun e => h (UInt8.toNat_inj.1 e)
      rcases Nat.lt_or_gt_of_ne hn with hl | hl
      · exact .inl (.inl (UInt8.lt_iff_toNat_lt.2 hl))
      · exact .inr (.inr (.inl (UInt8.lt_iff_toNat_lt.2 hl)))

/-! Directories. -/
def refB (o n : Int) : Bool := decide (0 ≤ o ∧ o < 24 ∧ 1 ≤ n ∧ n ≤ 32)
def Ent.may (e : Ent) : Bool := Pth.nameOk e.name.data.toList && refB e.owner e.num
def RisesE (k : Nat) (xs : List Ent) : Prop := ∀ i a b, i + 1 < k → xs[i]? = some a → xs[i + 1]? = some b → lessB a.name b.name = true
theorem RisesE.next {k : Nat} {xs : List Ent} {a b : Ent} (h : RisesE k xs) (h1 : 1 ≤ k) (ha : xs[k - 1]? = some a) (hb : xs[k]? = some b) (hlt : lessB a.name b.name = true) : RisesE (k + 1) xs := fun i x y hi hx hy => by
  by_cases e : i + 1 < k
  · exact h i x y e hx hy
  · have e1 : i = k - 1 := by omega
    subst e1
    rw [ha] at hx
    have e2 : k - 1 + 1 = k := by omega
    rw [e2, hb] at hy
    rw [← Option.some.inj hx, ← Option.some.inj hy]
    exact hlt
noncomputable def risesEB (xs : List Ent) : Bool := @decide (RisesE xs.length xs) (Classical.propDecidable _)
theorem risesEB_yes {xs : List Ent} (h : RisesE xs.length xs) : risesEB xs = true := by unfold risesEB; exact @decide_eq_true _ (Classical.propDecidable _) h
theorem risesEB_no {xs : List Ent} (h : ¬ RisesE xs.length xs) : risesEB xs = false := by unfold risesEB; exact @decide_eq_false _ (Classical.propDecidable _) h
/-- Is it a directory? -/
def Dir (xs : List Ent) : Prop := xs.length ≤ 32 ∧ (∀ x ∈ xs, x.may = true) ∧ RisesE xs.length xs
noncomputable def dirB (xs : List Ent) : Bool := @decide (Dir xs) (Classical.propDecidable _)
theorem dirB_yes {xs : List Ent} (h : Dir xs) : dirB xs = true := by unfold dirB; exact @decide_eq_true _ (Classical.propDecidable _) h
theorem dirB_no {xs : List Ent} (h : ¬ Dir xs) : dirB xs = false := by unfold dirB; exact @decide_eq_false _ (Classical.propDecidable _) h
theorem dirB_of {xs : List Ent} (h : dirB xs = true) : Dir xs := by unfold dirB at h; exact @of_decide_eq_true _ (Classical.propDecidable _) h

end Go.Proofs.Ytapegklffglnoaa
namespace Go.Proofs.Ytapegklffglnoaa
open Go.RowKit

set_option maxRecDepth 100000 in
set_option maxHeartbeats 1000000 in
theorem nameOf_any (i : Ent) (w : World) :
    Calls Try.prog 73 #[.agg i.cells.toArray] w fun e w' => e = .returned (.string i.name) ∧ Below w.heap.size w w' := by
  unfold Ent.cells
  go_enter Try.func73, Try.ntmps73
  go_wp2_with fail
  go_ret
  exact ⟨rfl, (Below.refl _ _).alloc (Nat.le_refl _) _⟩

set_option maxRecDepth 100000 in
set_option maxHeartbeats 1000000 in
theorem refMay_any (o n : Int) (w : World) :
    Calls Try.prog 71 #[.agg #[.int .i64 o, .int .i64 n]] w (MayPost (refB o n) w) := by
  obtain ⟨b, hb⟩ : ∃ b, refB o n = b := ⟨_, rfl⟩
  rw [hb]
  have hb' := hid hb
  clear hb
  go_enter Try.func71, Try.ntmps71
  go_wp2_with fail
  all_goals first
    | ((obtain rfl : b = false := by rw [← hb'.out]; exact decide_eq_false (by omega)); go_ret; exact ⟨rfl, (Below.refl _ _).alloc (Nat.le_refl _) _⟩)
    | ((obtain rfl : b = true := by rw [← hb'.out]; exact decide_eq_true (by omega)); go_ret; exact ⟨rfl, (Below.refl _ _).alloc (Nat.le_refl _) _⟩)
    | ((obtain rfl : b = decide (n ≤ 32) := by rw [← hb'.out]; unfold refB; exact decide_eq_decide.2 (by omega)); go_ret; exact ⟨rfl, (Below.refl _ _).alloc (Nat.le_refl _) _⟩)

set_option maxRecDepth 100000 in
set_option maxHeartbeats 4000000 in
theorem risingEnt_any (A : Option Addr) (n c B : Nat) (xs : List Ent) (w : World) (h : Ents w B A n xs) (hB : B ≤ w.heap.size) (hn : n ≤ 10000000000000) :
    Calls Try.prog 77 #[.slice A n c, .func (.func 73) #[] #[]] w (MayPost (risesEB xs) w) := by
  obtain ⟨R, hR⟩ : ∃ R, risesEB xs = R := ⟨_, rfl⟩
  rw [hR]
  have hR' := hid hR
  have h' := hid h
  have hlen := h.1
  clear hR h
  go_enter Try.func77, Try.ntmps77
  go_wp2_with fail
  go_loopw [5] (fun i wr => ∃ k : Nat, 1 ≤ k ∧ k ≤ n + 1 ∧ i = .int .i64 (k : Int) ∧ Below w.heap.size w wr ∧ RisesE k xs) (fun i _ => n + 1 - (intOf i).toNat)
  case atStart => exact ⟨1, Nat.le_refl _, by omega, rfl, Below.refl _ _, fun i a b hi _ _ => by omega⟩
  case round =>
    obtain ⟨k, hk1, hk, rfl, hBr, hris⟩ := hrel
    have hris' := hid hris
    have hBr' := hid hBr
    clear hris
    by_cases hlt : k < n
    · have hX := h'.out.below (hBr.mono hB)
      obtain ⟨p, a, hpA, hpB, ha, hfa, hca⟩ := hX.get (k := k - 1) (by omega)
      obtain ⟨p2, b, hpA2, _, hb, hfb, hcb⟩ := hX.get (k := k) hlt
      subst hpA
      obtain rfl : p = p2 := by injection hpA2
      have hlt' : (k : Int) < (n : Int) := by omega
      have hs1 := IntWalk.i64_in ((k : Int) - 1) (by omega)
      have hs2 : ((k : Int) - 1).toNat = k - 1 := by omega
      have hs3 : (0 : Int) ≤ (k : Int) - 1 := by omega
      have hs4 : (k : Int) - 1 < (n : Int) := by omega
      have hs5 : (0 : Int) ≤ (k : Int) := by omega
      have hs6 : (1 : Int) ≤ (k : Int) := by omega
      have hi1 : (Try.prog.info? 60).map (·.size) = some a.cells.length := by rw [Ent.len a]; exact Try.infoEnt
      have hi2 : (Try.prog.info? 60).map (·.size) = some b.cells.length := by rw [Ent.len b]; exact Try.infoEnt
      have hca' := hid hca
      have hcb' := hid hcb
      have hX' := hid hX
      have ha' := hid ha
      have hb' := hid hb
      clear hX hBr hca hcb ha hb
      go_wp2_with fail
      refine wp_region_held_drew (S := fun W => (∀ j v, a.cells[j]? = some v → W.cell? ((p.add ((k - 1) * 3)).add j) = some v) ∧ (∀ j v, b.cells[j]? = some v → W.cell? ((p.add (k * 3)).add j) = some v)) (by kernel_rfl) (by exact ⟨hca'.out, hcb'.out⟩) (fun hHeld => ?_)
      refine wpAnyH_take (i := 0) (v := .func (.func 73) #[] #[]) rfl (by kernel_rfl) (by kernel_rfl) (by kernel_rfl) (fun _ _ _ h => h) (yieldsIf_move _ rfl rfl rfl) hHeld ?_
      simp only [ly1, ly2, ly3, Act.put, ly5, ly6, ly7]
      refine wpAnyH_take (i := 1) (v := .slice (some p) n c) rfl (by kernel_rfl) (by kernel_rfl) (by kernel_rfl) (fun _ _ _ h => h) (yieldsIf_move _ rfl rfl rfl) hHeld ?_
      simp only [ly1, ly2, ly3, Act.put, ly5, ly6, ly7]
      refine wpAnyH_take (i := 2) (v := .int .i64 (k : Int)) rfl (by kernel_rfl) (by kernel_rfl) (by kernel_rfl) (fun _ _ _ h => h) (yieldsIf_move _ rfl rfl rfl) hHeld ?_
      simp only [ly1, ly2, ly3, Act.put, ly5, ly6, ly7]
      refine wpAnyH_take (i := 3) (v := .int .i64 ((k : Int) - 1)) rfl (by kernel_rfl) (by kernel_rfl) (by kernel_rfl) (fun _ _ _ h => h) (.inl ⟨by kernel_rfl, fun w _ => by go_simp⟩) hHeld ?_
      simp only [ly1, ly2, ly3, Act.put, ly5, ly6, ly7]
      refine wpAnyH_take (i := 4) (v := .pointer (some (p.add ((k - 1) * 3)))) rfl (by kernel_rfl) (by kernel_rfl) (by kernel_rfl) (fun _ _ _ h => h) (.inl ⟨by kernel_rfl, fun w _ => by go_simp⟩) hHeld ?_
      simp only [ly1, ly2, ly3, Act.put, ly5, ly6, ly7]
      refine wpAnyH_take (i := 5) (v := .agg a.cells.toArray) rfl (by kernel_rfl) (by kernel_rfl) (by kernel_rfl) (fun _ _ _ h => h) (yieldsIf_load_any (by kernel_rfl) _ _ rfl _ rfl _ _ (fun w hw => hw.1) Try.underlying60 rfl hi1) hHeld ?_
      simp only [ly1, ly2, ly3, Act.put, ly5, ly6, ly7]
      refine wpAnyH_take (i := 7) (v := .func (.func 73) #[] #[]) rfl (by kernel_rfl) (by kernel_rfl) (by kernel_rfl) (fun _ _ _ h => h) (yieldsIf_move _ rfl rfl rfl) hHeld ?_
      simp only [ly1, ly2, ly3, Act.put, ly5, ly6, ly7]
      refine wpAnyH_take (i := 8) (v := .slice (some p) n c) rfl (by kernel_rfl) (by kernel_rfl) (by kernel_rfl) (fun _ _ _ h => h) (yieldsIf_move _ rfl rfl rfl) hHeld ?_
      simp only [ly1, ly2, ly3, Act.put, ly5, ly6, ly7]
      refine wpAnyH_take (i := 9) (v := .int .i64 (k : Int)) rfl (by kernel_rfl) (by kernel_rfl) (by kernel_rfl) (fun _ _ _ h => h) (yieldsIf_move _ rfl rfl rfl) hHeld ?_
      simp only [ly1, ly2, ly3, Act.put, ly5, ly6, ly7]
      refine wpAnyH_take (i := 10) (v := .pointer (some (p.add (k * 3)))) rfl (by kernel_rfl) (by kernel_rfl) (by kernel_rfl) (fun _ _ _ h => h) (.inl ⟨by kernel_rfl, fun w _ => by go_simp⟩) hHeld ?_
      simp only [ly1, ly2, ly3, Act.put, ly5, ly6, ly7]
      refine wpAnyH_take (i := 11) (v := .agg b.cells.toArray) rfl (by kernel_rfl) (by kernel_rfl) (by kernel_rfl) (fun _ _ _ h => h) (yieldsIf_load_any (by kernel_rfl) _ _ rfl _ rfl _ _ (fun w hw => hw.2) Try.underlying60 rfl hi2) hHeld ?_
      simp only [ly1, ly2, ly3, Act.put, ly5, ly6, ly7]
      refine wpAnyH_ready (rs := [6]) (by kernel_rfl) (by simp) (AllReadyH.cons rfl (fun K hK => ?_) AllReadyH.nil)
      have hK' := hid hK
      clear hK
      rw [if_pos (by kernel_rfl)]
      simp only [ly1, ly2, ly3]
      go_simp
      refine (nameOf_any a _).mono ?_
      rintro e w1 ⟨rfl, hb1⟩
      have hS1 : (∀ j v, a.cells[j]? = some v → w1.cell? ((p.add ((k - 1) * 3)).add j) = some v) ∧ (∀ j v, b.cells[j]? = some v → w1.cell? ((p.add (k * 3)).add j) = some v) := ⟨fun j v hv => (hb1.cell (by rw [add_block, add_block]; exact Nat.lt_of_lt_of_le hpB (Nat.le_trans hB hBr'.out.size))).trans (hca'.out j v hv), fun j v hv => (hb1.cell (by rw [add_block, add_block]; exact Nat.lt_of_lt_of_le hpB (Nat.le_trans hB hBr'.out.size))).trans (hcb'.out j v hv)⟩
      refine hK'.out _ _ (by exact hS1) (fun hHeld => ?_)
      clear hK' K
      refine wpAnyH_ready (rs := [12]) (by kernel_rfl) (by simp) (AllReadyH.cons rfl (fun K hK => ?_) AllReadyH.nil)
      have hK' := hid hK
      clear hK
      rw [if_pos (by kernel_rfl)]
      simp only [ly1, ly2, ly3]
      go_simp
      refine (nameOf_any b _).mono ?_
      rintro e w2 ⟨rfl, hb2⟩
      have hS2 : (∀ j v, a.cells[j]? = some v → w2.cell? ((p.add ((k - 1) * 3)).add j) = some v) ∧ (∀ j v, b.cells[j]? = some v → w2.cell? ((p.add (k * 3)).add j) = some v) := ⟨fun j v hv => (hb2.cell (by rw [add_block, add_block]; exact Nat.lt_of_lt_of_le hpB (Nat.le_trans hB (Nat.le_trans hBr'.out.size hb1.size)))).trans (hS1.1 j v hv), fun j v hv => (hb2.cell (by rw [add_block, add_block]; exact Nat.lt_of_lt_of_le hpB (Nat.le_trans hB (Nat.le_trans hBr'.out.size hb1.size)))).trans (hS1.2 j v hv)⟩
      refine hK'.out _ _ (by exact hS2) (fun hHeld => ?_)
      clear hK' K
      have hBf := hid ((hBr'.out.trans (show Below w.heap.size wr w1 from (show Below wr.heap.size wr w1 from ⟨hb1.os, hb1.tape, hb1.output, hb1.size, hb1.block⟩).mono hBr'.out.size)).trans (hb2.mono (Nat.le_trans hBr'.out.size hb1.size)))
      clear hb1 hb2 hS1 hS2
      cases hab : lessB a.name b.name with
      | true =>
        have hdec : Op.bytesLess a.name.toList b.name.toList = true := hab
        refine wpAnyH_take (i := 13) (v := .bool false) rfl (by kernel_rfl) (by kernel_rfl) (by kernel_rfl) (fun _ _ _ h => h) (.inl ⟨by kernel_rfl, fun w _ => by go_simp⟩) hHeld ?_
        simp only [ly1, ly2, ly3, Act.put, ly5, ly6, ly7]
        refine wpAnyH_done (by kernel_rfl) ?_ _
        have hnx := hid (hris'.out.next hk1 ha'.out hb'.out hab)
        clear hab hdec
        go_wp2_with fail
        go_roundw
        case rel => exact ⟨k + 1, by omega, by omega, by go_num, hBf.out, hnx.out⟩
        case measure => simp [intOf]; omega
      | false =>
        have hdec : Op.bytesLess a.name.toList b.name.toList = false := hab
        refine wpAnyH_take (i := 13) (v := .bool true) rfl (by kernel_rfl) (by kernel_rfl) (by kernel_rfl) (fun _ _ _ h => h) (.inl ⟨by kernel_rfl, fun w _ => by go_simp⟩) hHeld ?_
        simp only [ly1, ly2, ly3, Act.put, ly5, ly6, ly7]
        refine wpAnyH_done (by kernel_rfl) ?_ _
        have hfin : R = false := by
          rw [← hR'.out]
          refine risesEB_no fun hall => ?_
          have h1 := hall (k - 1) a b (by omega) ha'.out (by
            have e : k - 1 + 1 = k := by omega
            rw [e]
            exact hb'.out)
          rw [hab] at h1
          cases h1
        subst hfin
        clear hab hdec
        go_wp2_with fail
        go_ret
        exact ⟨rfl, hBf.out⟩
    · have hfin : R = true := by
        rw [← hR'.out]
        refine risesEB_yes fun i a b hi => hris'.out i a b (by omega)
      subst hfin
      have hlt' : ¬ (k : Int) < (n : Int) := by omega
      go_wp2_with fail
      go_ret
      exact ⟨rfl, hBr'.out⟩


/-- The zeros of an entry. -/
def z3 : Array Value := #[.string ByteArray.empty, .int .i64 0, .int .i64 0]

/-- A variable of an entry, just made. -/
theorem ent_var {w W1 : World} {x : Ent} (h : (w.alloc (.cells z3 60)).setCells w.heap.size 0 x.cells = W1) : Holds W1 w.heap.size 60 x.cells ∧ Below w.heap.size w W1 := by
  have h0 := Holds.new w 60 z3
  have hl : z3.toList.length = 3 := by decide
  have h1 := h0.put 0 x.cells (by rw [Ent.len, hl]; decide)
  rw [put_all _ _ (by rw [Ent.len, hl]), h] at h1
  refine ⟨h1, ?_⟩
  rw [← h]
  exact below_setCells ((Below.refl _ _).alloc (Nat.le_refl _) _) _ _ _ (Nat.le_refl _)
theorem ent_there (w : World) (x : Ent) : (w.alloc (.cells z3 60)).there w.heap.size 0 x.cells.toArray.size := by
  refine (Holds.new w 60 z3).there 0 _ ?_
  rw [List.size_toArray, Ent.len]
  decide
theorem ent_size (x : Ent) : (Try.prog.info? 60).map (·.size) = some x.cells.toArray.size := by rw [List.size_toArray, Ent.len]; exact Try.infoEnt
theorem hold_range {w : World} {g : Nat} {t : TypeId} {cs : List Value} (h : Holds w g t cs) : w.rangeAt g 0 cs := h.range 0 cs (fun j _ => by rw [Nat.zero_add])
theorem ent_held {w : World} {q : Nat} {x : Ent} (h : Holds w q 60 x.cells) : w.cell? ⟨q, 0, none⟩ = some (.string x.name) ∧ w.cell? ⟨q, 1, none⟩ = some (.int .i64 x.owner) ∧ w.cell? ⟨q, 2, none⟩ = some (.int .i64 x.num) := by
  refine ⟨?_, ?_, ?_⟩ <;> rw [h.cell] <;> rfl

set_option maxRecDepth 100000 in
set_option maxHeartbeats 4000000 in
theorem dirMay_any (A : Option Addr) (n c B : Nat) (xs : List Ent) (w : World) (h : Ents w B A n xs) (hB : B ≤ w.heap.size) (hn : n ≤ 10000000000000) :
    Calls Try.prog 33 #[.slice A n c] w (MayPost (dirB xs) w) := by
  obtain ⟨R, hR⟩ : ∃ R, dirB xs = R := ⟨_, rfl⟩
  rw [hR]
  have hR' := hid hR
  have h' := hid h
  have hlen := h.1
  have hris := hid (fun W (hW : Ents W B A n xs) (hBW : B ≤ W.heap.size) => risingEnt_any A n c B xs W hW hBW hn)
  clear hR h
  by_cases h32 : 32 < n
  · have h32' : (32 : Int) < (n : Int) := by omega
    have hfin : R = false := by
      rw [← hR'.out]
      exact dirB_no fun h => by have := h.1; omega
    subst hfin
    go_enter Try.func33, Try.ntmps33
    go_wp2_with fail
    go_ret
    exact ⟨rfl, Below.refl _ _⟩
  have h32' : ¬ (32 : Int) < (n : Int) := by omega
  go_enter Try.func33, Try.ntmps33
  go_wp2_with fail
  go_loopw [10] (fun i wr => ∃ k : Nat, k ≤ n ∧ i = .int .i64 (k : Int) ∧ Below w.heap.size w wr ∧ ∀ j x, j < k → xs[j]? = some x → x.may = true) (fun i _ => n - (intOf i).toNat)
  case atStart => exact ⟨0, Nat.zero_le _, rfl, Below.refl _ _, fun j x hj _ => by omega⟩
  case round =>
    obtain ⟨k, hk, rfl, hBr, hok⟩ := hrel
    have hok' := hid hok
    have hBr' := hid hBr
    clear hok
    by_cases hlt : k < n
    · obtain ⟨p, a, hpA, hpB, ha, hfa, hca⟩ := (h'.out.below (hBr.mono hB)).get (k := k) hlt
      subst hpA
      have hlt' : (k : Int) < (n : Int) := by omega
      have hi1 : (Try.prog.info? 60).map (·.size) = some a.cells.length := by rw [Ent.len]; exact Try.infoEnt
      have hca' := hid hca
      have ha' := hid ha
      have hfa' := hid hfa
      clear hBr hca ha hfa
      have hth := ent_there wr a
      have hsz := ent_size a
      have hone := a.one
      have hnok := hid (fun W => dirNameMay_any a.name W (Nat.le_trans hfa'.out (by decide)))
      obtain ⟨nb, hnb⟩ : ∃ nb, Pth.nameOk a.name.data.toList = nb := ⟨_, rfl⟩
      obtain ⟨rb, hrb⟩ : ∃ rb, refB a.owner a.num = rb := ⟨_, rfl⟩
      have hmay := hid (show a.may = (nb && rb) from by unfold Ent.may; rw [hnb, hrb])
      rw [hnb] at hnok
      have hrok := hid (fun W => refMay_any a.owner a.num W)
      rw [hrb] at hrok
      have hnx := hid (fun (hm : (nb && rb) = true) => show ∀ j x, j < k + 1 → xs[j]? = some x → x.may = true from fun j x hj hx => by
        by_cases e : j < k
        · exact hok'.out j x e hx
        · have e1 : j = k := by omega
          subst e1
          rw [ha'.out] at hx
          rw [← Option.some.inj hx, hmay.out, hm])
      have hno := hid (fun (hm : (nb && rb) = false) => show R = false from by
        rw [← hR'.out]
        refine dirB_no fun hall => ?_
        have h1 := hall.2.1 a (List.mem_of_getElem? ha'.out)
        rw [hmay.out, hm] at h1
        cases h1)
      clear hnb hrb
      go_wp2_with (first
        | ((with_reducible refine at_slot (some 13) ?_); refine wpList_load_any rfl _ _ rfl _ rfl _ _ (by exact hca'.out) Try.underlying60 rfl hi1 ?_)
        | ((with_reducible refine at_slot (some 4) ?_); refine wpList_run rfl (.pointer (some ⟨wr.heap.size, 0, none⟩)) (wr.alloc (.cells z3 60)) (by kernel_rfl) ?_)
        | ((with_reducible refine at_slot none ?_); refine wpList_store_mid rfl 60 (.tmp 4) (.tmp 13) rfl wr.heap.size 0 a.cells.toArray rfl rfl (by exact hth) (by exact hsz) (by exact hone) ?_; obtain ⟨W1, hW1⟩ : ∃ W1, (wr.alloc (.cells z3 60)).setCells wr.heap.size 0 a.cells = W1 := ⟨_, rfl⟩; obtain ⟨hv, hb1⟩ := ent_var hW1; rw [hW1]; obtain ⟨d0, d1, d2⟩ := ent_held hv; have hv' := hid hv; have hb1' := hid hb1; clear hW1 hv hb1)
        | fail)
      refine (hnok.out _).mono ?_
      rintro e W2 ⟨rfl, hb2⟩
      have hv2 := hv'.out.below hb2 hv'.out.lt
      obtain ⟨e0, e1, e2⟩ := ent_held hv2
      have hW1B : Below w.heap.size w W1 := hBr'.out.trans (hb1'.out.mono hBr'.out.size)
      have hB2 := hid (hW1B.trans (hb2.mono hW1B.size))
      clear hb2 hW1B d0 d1 d2 hv2
      cases nb with
      | false =>
        obtain rfl := hno.out rfl
        go_wp2_with fail
        go_ret
        exact ⟨rfl, hB2.out⟩
      | true =>
        go_wp2_with fail
        refine (hrok.out _).mono ?_
        rintro e W3 ⟨rfl, hb3⟩
        have hB3 := hid (hB2.out.trans (hb3.mono hB2.out.size))
        clear hb3 e0 e1 e2
        cases rb with
        | false =>
          obtain rfl := hno.out rfl
          go_wp2_with fail
          go_ret
          exact ⟨rfl, hB3.out⟩
        | true =>
          have hok2 := hid (hnx.out rfl)
          go_wp2_with fail
          go_roundw
          case rel => exact ⟨k + 1, by omega, by go_num, hB3.out, hok2.out⟩
          case measure => simp [intOf]; omega
    · have hlt' : ¬ (k : Int) < (n : Int) := by omega
      have hfin : R = risesEB xs := by
        rw [← hR'.out]
        have hall : ∀ x ∈ xs, x.may = true := fun x hx => by
          obtain ⟨j, hj⟩ := List.getElem?_of_mem hx
          exact hok'.out j x (by have := (List.getElem?_eq_some_iff.1 hj).1; omega) hj
        cases hr : risesEB xs with
        | true =>
          unfold risesEB at hr
          exact dirB_yes ⟨by omega, hall, @of_decide_eq_true _ (Classical.propDecidable _) hr⟩
        | false =>
          unfold risesEB at hr
          exact dirB_no fun h => (@of_decide_eq_false _ (Classical.propDecidable _) hr) h.2.2
      have hr := hid (hris.out wr (h'.out.below (hBr.mono hB)) (Nat.le_trans hB hBr.size))
      rw [← hfin] at hr
      clear hfin hBr
      go_wp2_with fail
      refine hr.out.mono ?_
      rintro e W2 ⟨rfl, hb2⟩
      have hB2 := hid (hBr'.out.trans (hb2.mono hBr'.out.size))
      clear hb2
      go_wp2_with fail
      go_ret
      exact ⟨rfl, hB2.out⟩

end Go.Proofs.Ytapegklffglnoaa
namespace Go.Proofs.Ytapegklffglnoaa
open Go.RowKit

/-- An entry's bytes. -/
def Ent.bytes (e : Ent) : ByteArray := be 1 e.name.size ++ e.name ++ be 1 e.owner.toNat ++ be 1 e.num.toNat
theorem Ent.bytes_size (e : Ent) : e.bytes.size = e.name.size + 3 := by
  unfold Ent.bytes
  simp only [ByteArray.size_append, be_size]
  omega
theorem fits1e {x : Int} (h : 0 ≤ x) (h2 : x < 256) : fitsB x 1 = true := by
  unfold fitsB
  rw [show isSizeB 1 = true from rfl, Bool.true_and]
  exact decide_eq_true ⟨h, by simpa using h2⟩
theorem Ent.bounds {e : Ent} (h : e.may = true) : 1 ≤ e.name.size ∧ e.name.size ≤ 24 ∧ 0 ≤ e.owner ∧ e.owner < 24 ∧ 1 ≤ e.num ∧ e.num ≤ 32 := by
  unfold Ent.may at h
  rw [Bool.and_eq_true, nameOk_iff] at h
  unfold refB at h
  have h1 := of_decide_eq_true h.1
  have h2 := of_decide_eq_true h.2
  exact ⟨h1.1, h1.2.1, h2.1, h2.2.1, h2.2.2.1, h2.2.2.2⟩
theorem Ent.fits {e : Ent} (h : e.may = true) : fitsB e.name.size 1 = true ∧ fitsB e.owner 1 = true ∧ fitsB e.num 1 = true := by
  have hb := e.bounds h
  exact ⟨fits1e (by omega) (by omega), fits1e (by omega) (by omega), fits1e (by omega) (by omega)⟩

set_option maxRecDepth 100000 in
set_option maxHeartbeats 4000000 in
theorem putEnt_any (x : Ent) (hm : x.may = true) (B g h b : Nat) (s : ByteArray) (ext : Exts) (w : World) (hp : PutSt w B g h s ext) (mb : (b, 84, [Value.pointer (some ⟨g, 0, none⟩)]) ∈ ext) (hsz : s.size + 27 ≤ 65536) :
    Calls Try.prog 55 #[.agg x.cells.toArray, .pointer (some ⟨b, 0, none⟩)] w fun e w' => e = .returned (.tuple #[]) ∧ PutSt w' B g h (s ++ x.bytes) ext ∧ Below B w w' := by
  obtain ⟨f1, f2, f3⟩ := x.fits hm
  have hbd := x.bounds hm
  obtain ⟨q, hq⟩ : ∃ q, w.heap.size = q := ⟨_, rfl⟩
  obtain ⟨C, hC⟩ : ∃ C, x.cells.toArray = C := ⟨_, rfl⟩
  have hCl : x.cells = C.toList := by rw [← hC]
  have hp0 : PutSt (w.alloc (.cells C 60)) B g h s ((q, 60, x.cells) :: ext) := by
    have := hp.with C 60
    rw [hq, ← hCl] at this
    exact this
  have hb0 : Below B w (w.alloc (.cells C 60)) := (Below.refl _ _).alloc hp.size _
  have fin : ∀ {W' : World} {s' : ByteArray}, PutSt W' B g h s' ((q, 60, x.cells) :: ext) → PutSt W' B g h s' ext := fun k => k.sub fun y hy => List.mem_cons_of_mem _ hy
  have cel : ∀ {W' : World} {s' : ByteArray}, PutSt W' B g h s' ((q, 60, x.cells) :: ext) → W'.cell? ⟨b, 0, none⟩ = some (.pointer (some ⟨g, 0, none⟩)) ∧ W'.cell? ⟨q, 0, none⟩ = some (.string x.name) ∧ W'.cell? ⟨q, 1, none⟩ = some (.int .i64 x.owner) ∧ W'.cell? ⟨q, 2, none⟩ = some (.int .i64 x.num) := fun {W' s'} k => by
    have k1 := (k.held (List.mem_cons_of_mem _ mb)).cell 0
    have kx := k.held (List.mem_cons_self ..)
    exact ⟨by simpa using k1, ent_held kx⟩
  have cl := hid (fun (W' : World) (s' : ByteArray) => @cel W' s')
  have fn := hid (fun (W' : World) (s' : ByteArray) => @fin W' s')
  obtain ⟨s1, hs1⟩ : ∃ s1, s ++ (be (1 : Int).toNat x.name.size ++ x.name) = s1 := ⟨_, rfl⟩
  obtain ⟨s2, hs2⟩ : ∃ s2, s1 ++ be (1 : Int).toNat x.owner.toNat = s2 := ⟨_, rfl⟩
  have z1 : s1.size = s.size + 1 + x.name.size := by rw [← hs1, ByteArray.size_append, ByteArray.size_append, be_size]; show s.size + (1 + x.name.size) = _; omega
  have z2 : s2.size = s1.size + 1 := by rw [← hs2, ByteArray.size_append, be_size]; rfl
  have hend := hid (show s2 ++ be (1 : Int).toNat x.num.toNat = s ++ x.bytes from by
    rw [← hs2, ← hs1]
    unfold Ent.bytes
    simp only [ByteArray.append_assoc]
    rfl)
  have n1 := hid (fun W' (k : PutSt W' B g h s ((q, 60, x.cells) :: ext)) => cText_any x.name 1 f1 (by omega) B g h s _ W' k (by show s.size + 1 + x.name.size ≤ 65536; omega))
  rw [hs1] at n1
  have n2 := hid (fun W' (k : PutSt W' B g h s1 ((q, 60, x.cells) :: ext)) => cNum_any x.owner 1 f2 B g h s1 _ W' k (by show s1.size + 1 ≤ 65536; omega))
  rw [hs2] at n2
  have n3 := hid (fun W' (k : PutSt W' B g h s2 ((q, 60, x.cells) :: ext)) => cNum_any x.num 1 f3 B g h s2 _ W' k (by show s2.size + 1 ≤ 65536; omega))
  have hp0' := hid hp0
  have hb0' := hid hb0
  obtain ⟨c0, c1, -, -⟩ := cel hp0
  clear hp hp0 hb0 cel fin f1 f2 f3 hs1 hs2 z1 z2 hm hsz mb hCl hbd
  rw [hC]
  clear hC
  go_enter Try.func55, Try.ntmps55
  go_wp2_with fail
  refine (n1.out _ hp0'.out).mono ?_
  rintro e w1 ⟨rfl, h1, h2⟩
  obtain ⟨c0, -, c1, -⟩ := cl.out _ _ h1
  have p1' := hid h1
  have hb1' := hid (hb0'.out.trans h2)
  clear h1 h2
  go_wp2_with fail
  refine (n2.out _ p1'.out).mono ?_
  rintro e w2 ⟨rfl, h1, h2⟩
  obtain ⟨c0, -, -, c1⟩ := cl.out _ _ h1
  have p2' := hid h1
  have hb2' := hid (hb1'.out.trans h2)
  clear h1 h2
  go_wp2_with fail
  refine (n3.out _ p2'.out).mono ?_
  rintro e w3 ⟨rfl, h1, h2⟩
  rw [hend.out] at h1
  have p3' := hid (fn.out _ _ h1)
  have hb3' := hid (hb2'.out.trans h2)
  clear h1 h2
  go_wp2_with fail
  go_end0
  exact ⟨rfl, p3'.out, hb3'.out⟩

/-- The bytes of entries behind s. -/
def entFrom (s : ByteArray) (xs : List Ent) : ByteArray := xs.foldl (fun s x => s ++ x.bytes) s
theorem entFrom_next {s : ByteArray} {xs : List Ent} {k : Nat} {x : Ent} (h : xs[k]? = some x) : entFrom s (xs.take (k + 1)) = entFrom s (xs.take k) ++ x.bytes := by
  rw [List.take_add_one, h]
  simp [entFrom]
theorem entFrom_size {xs : List Ent} : ∀ {s : ByteArray}, (∀ x ∈ xs, x.may = true) → (entFrom s xs).size ≤ s.size + 27 * xs.length := by
  induction xs with
  | nil => intro s _; exact Nat.le_refl _
  | cons x xs ih =>
    intro s h
    have h1 := ih (s := s ++ x.bytes) fun y hy => h y (List.mem_cons_of_mem _ hy)
    have h2 := x.bounds (h x (List.mem_cons_self ..))
    rw [ByteArray.size_append, Ent.bytes_size] at h1
    show (entFrom (s ++ x.bytes) xs).size ≤ _
    rw [List.length_cons]
    omega

set_option maxRecDepth 100000 in
set_option maxHeartbeats 4000000 in
theorem listEnt_any (A : Option Addr) (n c : Nat) (xs : List Ent) (B g h b : Nat) (s : ByteArray) (ext : Exts) (w : World) (hp : PutSt w B g h s ext) (mb : (b, 84, [Value.pointer (some ⟨g, 0, none⟩)]) ∈ ext)
    (hxs : Ents w B A n xs) (hall : ∀ x ∈ xs, x.may = true) (hn : n ≤ 255) (hsz : s.size + 1 + 27 * n ≤ 65536) :
    Calls Try.prog 54 #[.pointer (some ⟨g, 0, none⟩), .int .i64 1, .slice A n c, .func (.func 55) #[] #[.pointer (some ⟨b, 0, none⟩)]] w
      fun e w' => e = .returned (.tuple #[]) ∧ PutSt w' B g h (entFrom (s ++ be 1 n) xs) ext ∧ Below B w w' := by
  have hN := cNum_any (n : Int) 1 (fits1e (by omega) (by omega)) B g h s ext w hp (by show s.size + 1 ≤ 65536; omega)
  obtain ⟨s0, hs0⟩ : ∃ s0, s ++ be 1 n = s0 := ⟨_, rfl⟩
  rw [show be (1 : Int).toNat (n : Int).toNat = be 1 n from rfl, hs0] at hN
  rw [hs0]
  have hz0 : s0.size = s.size + 1 := by rw [← hs0, ByteArray.size_append, be_size]
  have hlen := hxs.1
  have hfine := hid hxs.2.1
  have hput := hid (fun (x : Ent) (hm : x.may = true) (s' : ByteArray) (W : World) (k : PutSt W B g h s' ext) (hz : s'.size + 27 ≤ 65536) => putEnt_any x hm B g h b s' ext W k mb hz)
  have hN' := hid hN
  have h' := hid hxs
  have hall' := hid hall
  have hBw := hid hp.size
  have hsz' := hid hsz
  have hz0' := hid hz0
  clear hp hN hxs hall mb hs0 hz0 hsz
  go_enter Try.func54, Try.ntmps54
  go_wp2_with fail
  refine hN'.out.mono ?_
  rintro e w1 ⟨rfl, h1, h2⟩
  have h1' := hid h1
  have h2' := hid h2
  clear h1 h2
  go_wp2_with fail
  go_loopw [17] (fun i wr => ∃ k : Nat, k ≤ n ∧ i = .int .i64 (k : Int) ∧ Below B w wr ∧ PutSt wr B g h (entFrom s0 (xs.take k)) ext) (fun i _ => n - (intOf i).toNat)
  case atStart => exact ⟨0, Nat.zero_le _, rfl, h2'.out, h1'.out⟩
  case round =>
    obtain ⟨k, hk, rfl, hBr, hpr⟩ := hrel
    have hBr' := hid hBr
    by_cases hlt : k < n
    · obtain ⟨p, a, hpA, hpB, ha, hfa, hca⟩ := (h'.out.below hBr).get (k := k) hlt
      subst hpA
      have hlt' : (k : Int) < (n : Int) := by omega
      have hi1 : (Try.prog.info? 60).map (·.size) = some a.cells.length := by rw [Ent.len a]; exact Try.infoEnt
      have hca' := hid hca
      have ha' := hid ha
      have hpr' := hid hpr
      clear hBr hca ha hpr
      have hth := ent_there wr a
      have hsz := ent_size a
      have hone := a.one
      go_wp2_with (first
        | ((with_reducible refine at_slot (some 20) ?_); refine wpList_load_any rfl _ _ rfl _ rfl _ _ (by exact hca'.out) Try.underlying60 rfl hi1 ?_)
        | ((with_reducible refine at_slot (some 9) ?_); refine wpList_run rfl (.pointer (some ⟨wr.heap.size, 0, none⟩)) (wr.alloc (.cells z3 60)) (by kernel_rfl) ?_)
        | ((with_reducible refine at_slot none ?_); refine wpList_store_mid rfl 60 (.tmp 9) (.tmp 20) rfl wr.heap.size 0 a.cells.toArray rfl rfl (by exact hth) (by exact hsz) (by exact hone) ?_; obtain ⟨W1, hW1⟩ : ∃ W1, (wr.alloc (.cells z3 60)).setCells wr.heap.size 0 a.cells = W1 := ⟨_, rfl⟩; obtain ⟨hv, hb1⟩ := ent_var hW1; rw [hW1]; have hvr := hold_range hv; have hb1' := hid hb1; have hp1 := hpr'.out.keep hb1; have hgood := hp1.good; have hp1' := hid hp1; clear hW1 hv hb1 hp1)
        | ((with_reducible refine at_slot (some 26) ?_); refine wpList_load_mid rfl 60 (.tmp 9) rfl wr.heap.size 0 rfl a.cells _ (by exact hvr) Try.underlying60 rfl (by exact hi1) ?_)
        | fail)
      have hmem : a ∈ xs := List.mem_of_getElem? ha'.out
      have hsk : (entFrom s0 (xs.take k)).size + 27 ≤ 65536 := by
        have h1 := entFrom_size (s := s0) (xs := xs.take k) fun x hx => hall'.out x (List.mem_of_mem_take hx)
        rw [List.length_take, hz0'.out] at h1
        have := hsz'.out
        omega
      have hc := hput.out a (hall'.out a hmem) _ W1 hp1'.out hsk
      rw [← entFrom_next ha'.out] at hc
      refine hc.mono ?_
      rintro e w2 ⟨rfl, h1, h2⟩
      have hp2 := hid h1
      have hb2 := hid ((hBr'.out.trans (hb1'.out.mono (Nat.le_trans hBw.out hBr'.out.size))).trans h2)
      clear h1 h2 hc hsk hmem
      go_wp2_with fail
      go_roundw
      case rel => exact ⟨k + 1, by omega, by go_num, hb2.out, hp2.out⟩
      case measure => simp [intOf]; omega
    · have hlt' : ¬ (k : Int) < (n : Int) := by omega
      have e1 : k = n := by omega
      rw [e1, ← hlen, List.take_length] at hpr
      have hpr' := hid hpr
      clear hpr hBr e1
      go_wp2_with fail
      go_end0
      exact ⟨rfl, hpr'.out, hBr'.out⟩

/-- A directory's bytes. -/
def entBytes (xs : List Ent) : ByteArray := entFrom ((⟨#[]⟩ : ByteArray) ++ ⟨#[68]⟩ ++ be 1 xs.length) xs
noncomputable def eputS (xs : List Ent) : ByteArray × Int := if dirB xs then (entBytes xs, 0) else (⟨#[]⟩, 1300)
theorem eputS_yes {xs : List Ent} (h : dirB xs = true) : eputS xs = (entBytes xs, 0) := by unfold eputS; rw [if_pos h]
theorem eputS_no {xs : List Ent} (h : dirB xs = false) : eputS xs = (⟨#[]⟩, 1300) := by unfold eputS; rw [if_neg (by rw [h]; decide)]
def EPutPost (s : ByteArray) (x : Int) (w : World) (e : Ending) (w' : World) : Prop := e = .returned (.tuple #[.string s, .int .i64 x]) ∧ Below w.heap.size w w'

set_option maxRecDepth 100000 in
set_option maxHeartbeats 2000000 in
theorem dirPut_any (A : Option Addr) (n c B : Nat) (xs : List Ent) (w : World) (h : Ents w B A n xs) (hB : B ≤ w.heap.size) (hn : n ≤ 10000000000000) (s : ByteArray) (x : Int) (hs : eputS xs = (s, x)) :
    Calls Try.prog 22 #[.slice A n c] w (EPutPost s x w) := by
  have hM := hid (dirMay_any A n c B xs w h hB hn)
  have hlen := h.1
  have h' := hid h
  have hB' := hid hB
  cases hi : dirB xs with
  | false =>
    rw [eputS_no hi] at hs
    obtain ⟨rfl, rfl⟩ := Prod.mk.inj hs
    rw [hi] at hM
    clear h hB hi hs
    go_enter Try.func22, Try.ntmps22
    go_wp2_with fail
    refine hM.out.mono ?_
    rintro e w1 ⟨rfl, h1⟩
    have h1' := hid h1
    clear h1
    go_wp2_with fail
    go_ret2
    exact ⟨rfl, h1'.out⟩
  | true =>
    rw [eputS_yes hi] at hs
    obtain ⟨rfl, rfl⟩ := Prod.mk.inj hs
    rw [hi] at hM
    have hT := dirB_of hi
    have hle := hT.1
    have hall := hid hT.2.1
    clear h hB hi hs hT
    go_enter Try.func22, Try.ntmps22
    go_wp2_with fail
    refine hM.out.mono ?_
    rintro e w1 ⟨rfl, h1⟩
    have h1' := hid h1
    have hI1 := hid ((h'.out.more hB'.out).below h1)
    clear h1
    go_wp2_with (go_at_call 52; refine (codecNew_any _).mono ?_; rintro e w' ⟨rfl, rfl⟩)
    have hp0 := PutSt.fresh w1
    have hb0 : Below w1.heap.size w1 _ := (((Below.refl w1.heap.size w1).alloc (Nat.le_refl _) (.cells #[.slice none 0 0] 154)).alloc (by simp) (.cells #[.pointer (some ⟨w1.heap.size, 0, none⟩), .bool false] 130)).alloc (by simp; omega) (.cells #[.pointer (some ⟨w1.heap.size + 1, 0, none⟩)] 84)
    have hb0' := hid hb0
    refine (cMark_any 68 _ _ _ _ _ _ hp0 (by decide)).mono ?_
    rintro e w2 ⟨rfl, h2, hb2⟩
    obtain ⟨q, hq⟩ : ∃ q, w1.heap.size = q := ⟨_, rfl⟩
    have hIq : Ents w1 q A n xs := hI1.out.more (by rw [← hq]; exact h1'.out.size)
    rw [hq] at h2 hb0 hb2
    have hI2 := (hIq.below (hb0.trans hb2))
    have hBq := hid (h1'.out.trans ((hb0.trans hb2).mono (by rw [← hq]; exact h1'.out.size)))
    have hc2 := (h2.held (List.mem_cons_self ..)).cell 0
    simp at hc2
    have hL := hid (listEnt_any A n c xs q (q + 1) q (q + 1 + 1) _ _ w2 h2 (List.mem_cons_self ..) hI2 hall.out (by omega) (by rw [ByteArray.size_append]; show 0 + 1 + 1 + 27 * n ≤ 65536; omega))
    rw [show entFrom (ByteArray.empty ++ ⟨#[68]⟩ ++ be 1 n) xs = entBytes xs from by unfold entBytes; rw [hlen]; rfl] at hL
    clear hp0 hb0 hb0' hb2 h2 hI2 hIq
    rw [hq]
    go_wp2_with fail
    refine hL.out.mono ?_
    rintro e w3 ⟨rfl, h3, hb3⟩
    have hc3 := (h3.held (List.mem_cons_self ..)).cell 0
    simp at hc3
    have hA := hid (cAll_any q (q + 1) q _ _ w3 h3)
    have hB3 := hid (hBq.out.trans (hb3.mono (by rw [← hq]; exact h1'.out.size)))
    clear h3 hb3
    go_wp2_with fail
    refine hA.out.mono ?_
    rintro e w4 ⟨rfl, h4⟩
    have hB4 := hid (hB3.out.trans (h4.mono (by rw [← hq]; exact h1'.out.size)))
    clear h4
    go_wp2_with fail
    go_ret2
    exact ⟨rfl, hB4.out⟩

end Go.Proofs.Ytapegklffglnoaa
