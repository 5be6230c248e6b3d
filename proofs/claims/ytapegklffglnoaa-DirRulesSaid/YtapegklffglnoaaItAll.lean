/- Inodes: their cells, whether they may be.
   Inodes: may one be? its number.
   Layer 14: is it a table?
   Layer 14: an inode written.
   Layer 14: a table's inodes written.
   Layer 14: Put.
   Layer 14: an inode read.
   Layer 14: a table's inodes read.
   Layer 14: codec.Items of inodes.
   Layer 14: Get. -/
import Derived.Test.YtapegklffglnoaaCodR
import Derived.Test.YtapegklffglnoaaAts
import Derived.Test.YtapegklffglnoaaCodY
namespace Go.Proofs.Ytapegklffglnoaa
open Go.RowKit
open Go.Lib (strCells strCells_length strCells_oneCell)

structure Ino where
  num : Int
  kind : Int
  mode : Int
  links : Int
  size : Int
  root : ByteArray

def Ino.cells (i : Ino) : List Value := [.int .i64 i.num, .int .i64 i.kind, .int .i64 i.mode, .int .i64 i.links, .int .i64 i.size] ++ strCells i.root
def Ino.fine (i : Ino) : Prop := i.root.size = 32

theorem Ino.len {i : Ino} (h : i.fine) : i.cells.length = 37 := by
  unfold Ino.cells
  rw [List.length_append, strCells_length, show i.root.size = 32 from h]
  rfl

/-- May it be? -/
def mayB (num kind mode links size : Int) : Bool := decide (1 ≤ num ∧ num ≤ 32 ∧ (kind = 0 ∨ kind = 1) ∧ (mode = 0 ∨ mode = 1) ∧ 1 ≤ links ∧ links ≤ 32 ∧ 0 ≤ size ∧ size ≤ 4096 ∧ (kind = 0 ∨ size = 0))
def Ino.may (i : Ino) : Bool := mayB i.num i.kind i.mode i.links i.size

theorem Ino.at_ (i : Ino) : (i.cells.toArray)[0]? = some (.int .i64 i.num) ∧ (i.cells.toArray)[1]? = some (.int .i64 i.kind) ∧ (i.cells.toArray)[2]? = some (.int .i64 i.mode) ∧ (i.cells.toArray)[3]? = some (.int .i64 i.links) ∧ (i.cells.toArray)[4]? = some (.int .i64 i.size) := by
  unfold Ino.cells
  simp

/-- The slice at A reads as these inodes. -/
def Inos (w : World) (B : Nat) (A : Option Addr) (n : Nat) (xs : List Ino) : Prop :=
  xs.length = n ∧ (∀ a ∈ xs, a.fine) ∧ (n = 0 ∨ ∃ p : Addr, A = some p ∧ p.block < B ∧ ∀ i (hi : i < xs.length), ∀ j v, xs[i].cells[j]? = some v → w.cell? ((p.add (i * 37)).add j) = some v)

theorem Inos.below {w w' : World} {B : Nat} {A : Option Addr} {n : Nat} {xs : List Ino} (h : Inos w B A n xs) (hb : Below B w w') : Inos w' B A n xs := by
  obtain ⟨h1, h2, h3⟩ := h
  refine ⟨h1, h2, ?_⟩
  rcases h3 with h3 | ⟨p, hA, hB, hc⟩
  · exact .inl h3
  · exact .inr ⟨p, hA, hB, fun i hi j v hv => (hb.cell (by rw [add_block, add_block]; exact hB)).trans (hc i hi j v hv)⟩

theorem Inos.more {w : World} {B B' : Nat} {A : Option Addr} {n : Nat} {xs : List Ino} (h : Inos w B A n xs) (hB : B ≤ B') : Inos w B' A n xs := by
  obtain ⟨h1, h2, h3⟩ := h
  refine ⟨h1, h2, ?_⟩
  rcases h3 with h3 | ⟨p, hA, hb, hc⟩
  · exact .inl h3
  · exact .inr ⟨p, hA, Nat.lt_of_lt_of_le hb hB, hc⟩

theorem Inos.get {w : World} {B : Nat} {A : Option Addr} {n : Nat} {xs : List Ino} (h : Inos w B A n xs) {k : Nat} (hk : k < n) : ∃ p x, A = some p ∧ p.block < B ∧ xs[k]? = some x ∧ x.fine ∧ ∀ j v, x.cells[j]? = some v → w.cell? ((p.add (k * 37)).add j) = some v := by
  obtain ⟨h1, h2, h3 | ⟨p, hA, hB, hc⟩⟩ := h
  · omega
  · exact ⟨p, xs[k]'(by omega), hA, hB, List.getElem?_eq_getElem _, h2 _ (List.getElem_mem _), hc k (by omega)⟩

theorem Try.infoIno : (Try.prog.info? 78).map (·.size) = some 37 := by kernel_rfl

/-- Up to place k they rise by their numbers. -/
def RisesTo (k : Nat) (xs : List Ino) : Prop := ∀ i a b, i + 1 < k → xs[i]? = some a → xs[i + 1]? = some b → a.num < b.num

theorem RisesTo.next {k : Nat} {xs : List Ino} {a b : Ino} (h : RisesTo k xs) (h1 : 1 ≤ k) (ha : xs[k - 1]? = some a) (hb : xs[k]? = some b) (hlt : a.num < b.num) : RisesTo (k + 1) xs := fun i x y hi hx hy => by
  by_cases e : i + 1 < k
  · exact h i x y e hx hy
  · have e1 : i = k - 1 := by omega
    subst e1
    rw [ha] at hx
    have e2 : k - 1 + 1 = k := by omega
    rw [e2, hb] at hy
    rw [← Option.some.inj hx, ← Option.some.inj hy]
    exact hlt

/-- Is it a table? -/
def Itab (xs : List Ino) : Prop := (∀ x ∈ xs, x.may = true) ∧ RisesTo xs.length xs
noncomputable def itabB (xs : List Ino) : Bool := @decide (Itab xs) (Classical.propDecidable _)
theorem itabB_yes {xs : List Ino} (h : Itab xs) : itabB xs = true := by unfold itabB; exact @decide_eq_true _ (Classical.propDecidable _) h
theorem itabB_no {xs : List Ino} (h : ¬ Itab xs) : itabB xs = false := by unfold itabB; exact @decide_eq_false _ (Classical.propDecidable _) h
theorem itabB_of {xs : List Ino} (h : itabB xs = true) : Itab xs := by unfold itabB at h; exact @of_decide_eq_true _ (Classical.propDecidable _) h
noncomputable def risesB (xs : List Ino) : Bool := @decide (RisesTo xs.length xs) (Classical.propDecidable _)
theorem risesB_yes {xs : List Ino} (h : RisesTo xs.length xs) : risesB xs = true := by unfold risesB; exact @decide_eq_true _ (Classical.propDecidable _) h
theorem risesB_no {xs : List Ino} (h : ¬ RisesTo xs.length xs) : risesB xs = false := by unfold risesB; exact @decide_eq_false _ (Classical.propDecidable _) h

end Go.Proofs.Ytapegklffglnoaa
namespace Go.Proofs.Ytapegklffglnoaa
open Go.RowKit

set_option maxRecDepth 100000 in
set_option maxHeartbeats 2000000 in
theorem inodeMay_any (i : Ino) (w : World) :
    Calls Try.prog 87 #[.agg i.cells.toArray] w (MayPost i.may w) := by
  obtain ⟨h0, h1, h2, h3, h4⟩ := i.at_
  obtain ⟨num, kind, mode, links, size, root⟩ := i
  generalize (Ino.cells ⟨num, kind, mode, links, size, root⟩).toArray = C at h0 h1 h2 h3 h4 ⊢
  dsimp only at h0 h1 h2 h3 h4
  have hB : Below w.heap.size w (w.alloc (.cells C 78)) := (Below.refl _ _).alloc (Nat.le_refl _) _
  have hH := Holds.new w 78 C
  have c0 : (w.alloc (.cells C 78)).cell? ⟨w.heap.size, 0, none⟩ = some (.int .i64 num) := by rw [hH.cell]; simpa using h0
  have c1 : (w.alloc (.cells C 78)).cell? ⟨w.heap.size, 1, none⟩ = some (.int .i64 kind) := by rw [hH.cell]; simpa using h1
  have c2 : (w.alloc (.cells C 78)).cell? ⟨w.heap.size, 2, none⟩ = some (.int .i64 mode) := by rw [hH.cell]; simpa using h2
  have c3 : (w.alloc (.cells C 78)).cell? ⟨w.heap.size, 3, none⟩ = some (.int .i64 links) := by rw [hH.cell]; simpa using h3
  have c4 : (w.alloc (.cells C 78)).cell? ⟨w.heap.size, 4, none⟩ = some (.int .i64 size) := by rw [hH.cell]; simpa using h4
  have hB' := hid hB
  clear hB hH
  unfold Ino.may
  dsimp only
  obtain ⟨b, hb⟩ : ∃ b, mayB num kind mode links size = b := ⟨_, rfl⟩
  rw [hb]
  have hb' := hid hb
  clear hb
  go_enter Try.func87, Try.ntmps87
  go_wp2_with fail
  all_goals first
    | ((obtain rfl : b = false := by rw [← hb'.out]; exact decide_eq_false (by omega)); go_ret; exact ⟨rfl, hB'.out⟩)
    | ((obtain rfl : b = true := by rw [← hb'.out]; exact decide_eq_true (by omega)); go_ret; exact ⟨rfl, hB'.out⟩)
    | ((obtain rfl : b = (size == 0) := by rw [← hb'.out]; unfold mayB; rw [Bool.eq_iff_iff, decide_eq_true_iff, beq_iff_eq]; omega); go_ret; exact ⟨rfl, hB'.out⟩)

set_option maxRecDepth 100000 in
set_option maxHeartbeats 1000000 in
theorem numOf_any (i : Ino) (w : World) :
    Calls Try.prog 89 #[.agg i.cells.toArray] w fun e w' => e = .returned (.int .i64 i.num) ∧ Below w.heap.size w w' := by
  obtain ⟨h0, -⟩ := i.at_
  generalize i.cells.toArray = C at h0 ⊢
  have hH := Holds.new w 78 C
  have c0 : (w.alloc (.cells C 78)).cell? ⟨w.heap.size, 0, none⟩ = some (.int .i64 i.num) := by rw [hH.cell]; simpa using h0
  have hB := hid (show Below w.heap.size w (w.alloc (.cells C 78)) from (Below.refl _ _).alloc (Nat.le_refl _) _)
  clear hH
  go_enter Try.func89, Try.ntmps89
  go_wp2_with fail
  go_ret
  exact ⟨rfl, hB.out⟩

end Go.Proofs.Ytapegklffglnoaa
namespace Go.Proofs.Ytapegklffglnoaa
open Go.RowKit

theorem Inos.at_ {w : World} {B : Nat} {A : Option Addr} {n : Nat} {xs : List Ino} (h : Inos w B A n xs) : n = 0 ∨ ∃ p : Addr, A = some p := by
  rcases h.2.2 with h | ⟨p, hp, _⟩
  · exact .inl h
  · exact .inr ⟨p, hp⟩

set_option maxRecDepth 100000 in
set_option maxHeartbeats 4000000 in
theorem risingIno_any (A : Option Addr) (n c B : Nat) (xs : List Ino) (w : World) (h : Inos w B A n xs) (hB : B ≤ w.heap.size) (hn : n ≤ 10000000000000) :
    Calls Try.prog 88 #[.slice A n c, .func (.func 89) #[] #[]] w (MayPost (risesB xs) w) := by
  obtain ⟨R, hR⟩ : ∃ R, risesB xs = R := ⟨_, rfl⟩
  rw [hR]
  have hR' := hid hR
  have h' := hid h
  have hlen := h.1
  clear hR h
  go_enter Try.func88, Try.ntmps88
  go_wp2_with fail
  go_loopw [5] (fun i wr => ∃ k : Nat, 1 ≤ k ∧ k ≤ n + 1 ∧ i = .int .i64 (k : Int) ∧ Below w.heap.size w wr ∧ RisesTo k xs) (fun i _ => n + 1 - (intOf i).toNat)
  case atStart => exact ⟨1, Nat.le_refl _, by omega, rfl, Below.refl _ _, fun i a b hi _ _ => by omega⟩
  case round =>
    obtain ⟨k, hk1, hk, rfl, hBr, hris⟩ := hrel
    have hris' := hid hris
    have hBr' := hid hBr
    clear hris
    by_cases hlt : k < n
    · have hX := h'.out.below (hBr.mono hB)
      obtain ⟨p, a, hpA, hpB, ha, hfa, hca⟩ := hX.get (k := k - 1) (by omega)
      obtain ⟨p2, b, hpA2, _, hb, hfb, hcb⟩ := hX.get (k := k) hlt
      subst hpA
      obtain rfl : p = p2 := by injection hpA2
      have hlt' : (k : Int) < (n : Int) := by omega
      have hs1 := IntWalk.i64_in ((k : Int) - 1) (by omega)
      have hs2 : ((k : Int) - 1).toNat = k - 1 := by omega
      have hs3 : (0 : Int) ≤ (k : Int) - 1 := by omega
      have hs4 : (k : Int) - 1 < (n : Int) := by omega
      have hs5 : (0 : Int) ≤ (k : Int) := by omega
      have hs6 : (1 : Int) ≤ (k : Int) := by omega
      have hi1 : (Try.prog.info? 78).map (·.size) = some a.cells.length := by rw [Ino.len hfa]; exact Try.infoIno
      have hi2 : (Try.prog.info? 78).map (·.size) = some b.cells.length := by rw [Ino.len hfb]; exact Try.infoIno
      have hca' := hid hca
      have hcb' := hid hcb
      have hX' := hid hX
      have ha' := hid ha
      have hb' := hid hb
      clear hX hBr hca hcb ha hb
      go_wp2_with fail
      refine wp_region_held_drew (S := fun W => (∀ j v, a.cells[j]? = some v → W.cell? ((p.add ((k - 1) * 37)).add j) = some v) ∧ (∀ j v, b.cells[j]? = some v → W.cell? ((p.add (k * 37)).add j) = some v)) (by kernel_rfl) (by exact ⟨hca'.out, hcb'.out⟩) (fun hHeld => ?_)
      refine wpAnyH_take (i := 0) (v := .func (.func 89) #[] #[]) rfl (by kernel_rfl) (by kernel_rfl) (by kernel_rfl) (fun _ _ _ h => h) (yieldsIf_move _ rfl rfl rfl) hHeld ?_
      simp only [ly1, ly2, ly3, Act.put, ly5, ly6, ly7]
      refine wpAnyH_take (i := 1) (v := .slice (some p) n c) rfl (by kernel_rfl) (by kernel_rfl) (by kernel_rfl) (fun _ _ _ h => h) (yieldsIf_move _ rfl rfl rfl) hHeld ?_
      simp only [ly1, ly2, ly3, Act.put, ly5, ly6, ly7]
      refine wpAnyH_take (i := 2) (v := .int .i64 (k : Int)) rfl (by kernel_rfl) (by kernel_rfl) (by kernel_rfl) (fun _ _ _ h => h) (yieldsIf_move _ rfl rfl rfl) hHeld ?_
      simp only [ly1, ly2, ly3, Act.put, ly5, ly6, ly7]
      refine wpAnyH_take (i := 3) (v := .int .i64 ((k : Int) - 1)) rfl (by kernel_rfl) (by kernel_rfl) (by kernel_rfl) (fun _ _ _ h => h) (.inl ⟨by kernel_rfl, fun w _ => by go_simp⟩) hHeld ?_
      simp only [ly1, ly2, ly3, Act.put, ly5, ly6, ly7]
      refine wpAnyH_take (i := 4) (v := .pointer (some (p.add ((k - 1) * 37)))) rfl (by kernel_rfl) (by kernel_rfl) (by kernel_rfl) (fun _ _ _ h => h) (.inl ⟨by kernel_rfl, fun w _ => by go_simp⟩) hHeld ?_
      simp only [ly1, ly2, ly3, Act.put, ly5, ly6, ly7]
      refine wpAnyH_take (i := 5) (v := .agg a.cells.toArray) rfl (by kernel_rfl) (by kernel_rfl) (by kernel_rfl) (fun _ _ _ h => h) (yieldsIf_load_any (by kernel_rfl) _ _ rfl _ rfl _ _ (fun w hw => hw.1) Try.underlying78 rfl hi1) hHeld ?_
      simp only [ly1, ly2, ly3, Act.put, ly5, ly6, ly7]
      refine wpAnyH_take (i := 7) (v := .func (.func 89) #[] #[]) rfl (by kernel_rfl) (by kernel_rfl) (by kernel_rfl) (fun _ _ _ h => h) (yieldsIf_move _ rfl rfl rfl) hHeld ?_
      simp only [ly1, ly2, ly3, Act.put, ly5, ly6, ly7]
      refine wpAnyH_take (i := 8) (v := .slice (some p) n c) rfl (by kernel_rfl) (by kernel_rfl) (by kernel_rfl) (fun _ _ _ h => h) (yieldsIf_move _ rfl rfl rfl) hHeld ?_
      simp only [ly1, ly2, ly3, Act.put, ly5, ly6, ly7]
      refine wpAnyH_take (i := 9) (v := .int .i64 (k : Int)) rfl (by kernel_rfl) (by kernel_rfl) (by kernel_rfl) (fun _ _ _ h => h) (yieldsIf_move _ rfl rfl rfl) hHeld ?_
      simp only [ly1, ly2, ly3, Act.put, ly5, ly6, ly7]
      refine wpAnyH_take (i := 10) (v := .pointer (some (p.add (k * 37)))) rfl (by kernel_rfl) (by kernel_rfl) (by kernel_rfl) (fun _ _ _ h => h) (.inl ⟨by kernel_rfl, fun w _ => by go_simp⟩) hHeld ?_
      simp only [ly1, ly2, ly3, Act.put, ly5, ly6, ly7]
      refine wpAnyH_take (i := 11) (v := .agg b.cells.toArray) rfl (by kernel_rfl) (by kernel_rfl) (by kernel_rfl) (fun _ _ _ h => h) (yieldsIf_load_any (by kernel_rfl) _ _ rfl _ rfl _ _ (fun w hw => hw.2) Try.underlying78 rfl hi2) hHeld ?_
      simp only [ly1, ly2, ly3, Act.put, ly5, ly6, ly7]
      refine wpAnyH_ready (rs := [6]) (by kernel_rfl) (by simp) (AllReadyH.cons rfl (fun K hK => ?_) AllReadyH.nil)
      have hK' := hid hK
      clear hK
      rw [if_pos (by kernel_rfl)]
      simp only [ly1, ly2, ly3]
      go_simp
      refine (numOf_any a _).mono ?_
      rintro e w1 ⟨rfl, hb1⟩
      have hS1 : (∀ j v, a.cells[j]? = some v → w1.cell? ((p.add ((k - 1) * 37)).add j) = some v) ∧ (∀ j v, b.cells[j]? = some v → w1.cell? ((p.add (k * 37)).add j) = some v) := ⟨fun j v hv => (hb1.cell (by rw [add_block, add_block]; exact Nat.lt_of_lt_of_le hpB (Nat.le_trans hB hBr'.out.size))).trans (hca'.out j v hv), fun j v hv => (hb1.cell (by rw [add_block, add_block]; exact Nat.lt_of_lt_of_le hpB (Nat.le_trans hB hBr'.out.size))).trans (hcb'.out j v hv)⟩
      refine hK'.out _ _ (by exact hS1) (fun hHeld => ?_)
      clear hK' K
      refine wpAnyH_ready (rs := [12]) (by kernel_rfl) (by simp) (AllReadyH.cons rfl (fun K hK => ?_) AllReadyH.nil)
      have hK' := hid hK
      clear hK
      rw [if_pos (by kernel_rfl)]
      simp only [ly1, ly2, ly3]
      go_simp
      refine (numOf_any b _).mono ?_
      rintro e w2 ⟨rfl, hb2⟩
      have hS2 : (∀ j v, a.cells[j]? = some v → w2.cell? ((p.add ((k - 1) * 37)).add j) = some v) ∧ (∀ j v, b.cells[j]? = some v → w2.cell? ((p.add (k * 37)).add j) = some v) := ⟨fun j v hv => (hb2.cell (by rw [add_block, add_block]; exact Nat.lt_of_lt_of_le hpB (Nat.le_trans hB (Nat.le_trans hBr'.out.size hb1.size)))).trans (hS1.1 j v hv), fun j v hv => (hb2.cell (by rw [add_block, add_block]; exact Nat.lt_of_lt_of_le hpB (Nat.le_trans hB (Nat.le_trans hBr'.out.size hb1.size)))).trans (hS1.2 j v hv)⟩
      refine hK'.out _ _ (by exact hS2) (fun hHeld => ?_)
      clear hK' K
      have hBf := hid ((hBr'.out.trans (show Below w.heap.size wr w1 from (show Below wr.heap.size wr w1 from ⟨hb1.os, hb1.tape, hb1.output, hb1.size, hb1.block⟩).mono hBr'.out.size)).trans (hb2.mono (Nat.le_trans hBr'.out.size hb1.size)))
      clear hb1 hb2 hS1 hS2
      by_cases hab : a.num < b.num
      · have hab' : ¬ b.num ≤ a.num := by omega
        have hdec : decide (b.num ≤ a.num) = false := by simp; omega
        refine wpAnyH_take (i := 13) (v := .bool false) rfl (by kernel_rfl) (by kernel_rfl) (by kernel_rfl) (fun _ _ _ h => h) (.inl ⟨by kernel_rfl, fun w _ => by go_simp⟩) hHeld ?_
        simp only [ly1, ly2, ly3, Act.put, ly5, ly6, ly7]
        refine wpAnyH_done (by kernel_rfl) ?_ _
        have hnx := hid (hris'.out.next hk1 ha'.out hb'.out hab)
        clear hab
        go_wp2_with fail
        go_roundw
        case rel => exact ⟨k + 1, by omega, by omega, by go_num, hBf.out, hnx.out⟩
        case measure => simp [intOf]; omega
      · have hab' : b.num ≤ a.num := by omega
        have hdec : decide (b.num ≤ a.num) = true := by simp; omega
        refine wpAnyH_take (i := 13) (v := .bool true) rfl (by kernel_rfl) (by kernel_rfl) (by kernel_rfl) (fun _ _ _ h => h) (.inl ⟨by kernel_rfl, fun w _ => by go_simp⟩) hHeld ?_
        simp only [ly1, ly2, ly3, Act.put, ly5, ly6, ly7]
        refine wpAnyH_done (by kernel_rfl) ?_ _
        have hfin : R = false := by
          rw [← hR'.out]
          refine risesB_no fun hall => hab (hall (k - 1) a b (by omega) ha'.out ?_)
          have e : k - 1 + 1 = k := by omega
          rw [e]
          exact hb'.out
        subst hfin
        clear hab
        go_wp2_with fail
        go_ret
        exact ⟨rfl, hBf.out⟩
    · have hfin : R = true := by
        rw [← hR'.out]
        refine risesB_yes fun i a b hi => hris'.out i a b (by omega)
      subst hfin
      have hlt' : ¬ (k : Int) < (n : Int) := by omega
      go_wp2_with fail
      go_ret
      exact ⟨rfl, hBr'.out⟩

/-- The zeros of an inode. -/
def z37 : Array Value := Array.replicate 5 (.int .i64 0) ++ Array.replicate 32 (.int .u8 0)

theorem Ino.one (x : Ino) : x.cells.toArray.all (·.oneCell') = true := by
  rw [Array.all_eq_true]
  intro i hi
  have hm : x.cells.toArray[i] ∈ x.cells := by simp
  generalize x.cells.toArray[i] = v at hm ⊢
  unfold Ino.cells at hm
  rcases List.mem_append.1 hm with h | h
  · simp at h
    rcases h with rfl | rfl | rfl | rfl | rfl <;> rfl
  · exact Go.Lib.strCells_oneCell _ v h

/-- A variable of an inode, just made. -/
theorem ino_var {w W1 : World} {x : Ino} (hx : x.fine) (h : (w.alloc (.cells z37 78)).setCells w.heap.size 0 x.cells = W1) : Holds W1 w.heap.size 78 x.cells ∧ Below w.heap.size w W1 := by
  have h0 := Holds.new w 78 z37
  have hl : z37.toList.length = 37 := by decide
  have h1 := h0.put 0 x.cells (by rw [Ino.len hx, hl]; decide)
  rw [put_all _ _ (by rw [Ino.len hx, hl]), h] at h1
  refine ⟨h1, ?_⟩
  rw [← h]
  exact below_setCells ((Below.refl _ _).alloc (Nat.le_refl _) _) _ _ _ (Nat.le_refl _)
theorem ino_there (w : World) {x : Ino} (hx : x.fine) : (w.alloc (.cells z37 78)).there w.heap.size 0 x.cells.toArray.size := by
  refine (Holds.new w 78 z37).there 0 _ ?_
  rw [List.size_toArray, Ino.len hx]
  decide
theorem ino_size {x : Ino} (hx : x.fine) : (Try.prog.info? 78).map (·.size) = some x.cells.toArray.size := by rw [List.size_toArray, Ino.len hx]; exact Try.infoIno
theorem holds_range {w : World} {g : Nat} {t : TypeId} {cs : List Value} (h : Holds w g t cs) : w.rangeAt g 0 cs := h.range 0 cs (fun j _ => by rw [Nat.zero_add])

set_option maxRecDepth 100000 in
set_option maxHeartbeats 4000000 in
theorem itabMay_any (A : Option Addr) (n c B : Nat) (xs : List Ino) (w : World) (h : Inos w B A n xs) (hB : B ≤ w.heap.size) (hn : n ≤ 10000000000000) :
    Calls Try.prog 44 #[.slice A n c] w (MayPost (itabB xs) w) := by
  obtain ⟨R, hR⟩ : ∃ R, itabB xs = R := ⟨_, rfl⟩
  rw [hR]
  have hR' := hid hR
  have h' := hid h
  have hlen := h.1
  have hris := hid (fun W (hW : Inos W B A n xs) (hBW : B ≤ W.heap.size) => risingIno_any A n c B xs W hW hBW hn)
  clear hR h
  go_enter Try.func44, Try.ntmps44
  go_wp2_with fail
  go_loopw [7] (fun i wr => ∃ k : Nat, k ≤ n ∧ i = .int .i64 (k : Int) ∧ Below w.heap.size w wr ∧ ∀ j x, j < k → xs[j]? = some x → x.may = true) (fun i _ => n - (intOf i).toNat)
  case atStart => exact ⟨0, Nat.zero_le _, rfl, Below.refl _ _, fun j x hj _ => by omega⟩
  case round =>
    obtain ⟨k, hk, rfl, hBr, hok⟩ := hrel
    have hok' := hid hok
    have hBr' := hid hBr
    clear hok
    by_cases hlt : k < n
    · obtain ⟨p, a, hpA, hpB, ha, hfa, hca⟩ := (h'.out.below (hBr.mono hB)).get (k := k) hlt
      subst hpA
      have hlt' : (k : Int) < (n : Int) := by omega
      have hi1 : (Try.prog.info? 78).map (·.size) = some a.cells.length := by rw [Ino.len hfa]; exact Try.infoIno
      have hca' := hid hca
      have ha' := hid ha
      clear hBr hca ha
      have hth := ino_there wr hfa
      have hsz := ino_size hfa
      have hone := a.one
      go_wp2_with (first
        | ((with_reducible refine at_slot (some 10) ?_); refine wpList_load_any rfl _ _ rfl _ rfl _ _ (by exact hca'.out) Try.underlying78 rfl hi1 ?_)
        | ((with_reducible refine at_slot (some 4) ?_); refine wpList_run rfl (.pointer (some ⟨wr.heap.size, 0, none⟩)) (wr.alloc (.cells z37 78)) (by kernel_rfl) ?_)
        | ((with_reducible refine at_slot none ?_); refine wpList_store_mid rfl 78 (.tmp 4) (.tmp 10) rfl wr.heap.size 0 a.cells.toArray rfl rfl (by exact hth) (by exact hsz) (by exact hone) ?_; obtain ⟨W1, hW1⟩ : ∃ W1, (wr.alloc (.cells z37 78)).setCells wr.heap.size 0 a.cells = W1 := ⟨_, rfl⟩; obtain ⟨hv, hb1⟩ := ino_var hfa hW1; rw [hW1]; have hvr := holds_range hv; have hb1' := hid hb1; clear hW1 hv hb1)
        | ((with_reducible refine at_slot (some 11) ?_); refine wpList_load_mid rfl 78 (.tmp 4) rfl wr.heap.size 0 rfl a.cells _ (by exact hvr) Try.underlying78 rfl (by exact hi1) ?_)
        | fail)
      have hW1B : Below w.heap.size w W1 := hBr'.out.trans (hb1'.out.mono hBr'.out.size)
      refine (inodeMay_any a _).mono ?_
      rintro e W2 ⟨rfl, hb2⟩
      have hB2 := hid (hW1B.trans (hb2.mono hW1B.size))
      clear hb2 hW1B
      cases ham : a.may with
      | true =>
        have hok2 := hid (show ∀ j x, j < k + 1 → xs[j]? = some x → x.may = true from fun j x hj hx => by
          by_cases e : j < k
          · exact hok'.out j x e hx
          · have e1 : j = k := by omega
            subst e1
            rw [ha'.out] at hx
            rw [← Option.some.inj hx]
            exact ham)
        clear ham
        go_wp2_with fail
        go_roundw
        case rel => exact ⟨k + 1, by omega, by go_num, hB2.out, hok2.out⟩
        case measure => simp [intOf]; omega
      | false =>
        have hfin : R = false := by
          rw [← hR'.out]
          refine itabB_no fun hall => ?_
          rw [hall.1 a (List.mem_of_getElem? ha'.out)] at ham
          cases ham
        subst hfin
        clear ham
        go_wp2_with fail
        go_ret
        exact ⟨rfl, hB2.out⟩
    · have hlt' : ¬ (k : Int) < (n : Int) := by omega
      have hfin : R = risesB xs := by
        rw [← hR'.out]
        have hall : ∀ x ∈ xs, x.may = true := fun x hx => by
          obtain ⟨j, hj⟩ := List.getElem?_of_mem hx
          exact hok'.out j x (by have := (List.getElem?_eq_some_iff.1 hj).1; omega) hj
        cases hr : risesB xs with
        | true =>
          unfold risesB at hr
          exact itabB_yes ⟨hall, @of_decide_eq_true _ (Classical.propDecidable _) hr⟩
        | false =>
          unfold risesB at hr
          exact itabB_no fun h => (@of_decide_eq_false _ (Classical.propDecidable _) hr) h.2
      have hr := hid (hris.out wr (h'.out.below (hBr.mono hB)) (Nat.le_trans hB hBr.size))
      rw [← hfin] at hr
      clear hfin hBr
      go_wp2_with fail
      refine hr.out.mono ?_
      rintro e W2 ⟨rfl, hb2⟩
      have hB2 := hid (hBr'.out.trans (hb2.mono hBr'.out.size))
      clear hb2
      go_wp2_with fail
      go_ret
      exact ⟨rfl, hB2.out⟩

end Go.Proofs.Ytapegklffglnoaa
namespace Go.Proofs.Ytapegklffglnoaa
open Go.RowKit
open Go.Lib (strCells strCells_length strCells_oneCell)

/-- An inode's bytes. -/
def Ino.bytes (i : Ino) : ByteArray := be 1 i.num.toNat ++ be 1 i.kind.toNat ++ be 1 i.mode.toNat ++ be 1 i.links.toNat ++ be 2 i.size.toNat ++ i.root
theorem Ino.bytes_size {i : Ino} (h : i.fine) : i.bytes.size = 38 := by
  unfold Ino.bytes
  simp only [ByteArray.size_append, be_size]
  rw [show i.root.size = 32 from h]
theorem fits1 {x : Int} (h : 0 ≤ x) (h2 : x < 256) : fitsB x 1 = true := by
  unfold fitsB
  rw [show isSizeB 1 = true from rfl, Bool.true_and]
  exact decide_eq_true ⟨h, by simpa using h2⟩
theorem fits2 {x : Int} (h : 0 ≤ x) (h2 : x < 65536) : fitsB x 2 = true := by
  unfold fitsB
  rw [show isSizeB 2 = true from rfl, Bool.true_and]
  exact decide_eq_true ⟨h, by simpa using h2⟩
theorem Ino.fits {i : Ino} (h : i.may = true) : fitsB i.num 1 = true ∧ fitsB i.kind 1 = true ∧ fitsB i.mode 1 = true ∧ fitsB i.links 1 = true ∧ fitsB i.size 2 = true := by
  unfold Ino.may mayB at h
  have h := of_decide_eq_true h
  exact ⟨fits1 (by omega) (by omega), fits1 (by omega) (by omega), fits1 (by omega) (by omega), fits1 (by omega) (by omega), fits2 (by omega) (by omega)⟩
theorem Ino.root_at {i : Ino} (h : i.fine) {w : World} {q : Nat} {t : TypeId} (hh : Holds w q t i.cells) : w.rangeAt q 5 (strCells i.root) := by
  refine hh.range 5 _ fun j hj => ?_
  unfold Ino.cells
  rw [List.getElem?_append_right (by simp)]
  simp

set_option maxRecDepth 100000 in
set_option maxHeartbeats 4000000 in
theorem putIno_any (x : Ino) (hx : x.fine) (hm : x.may = true) (B g h b : Nat) (s : ByteArray) (ext : Exts) (w : World) (hp : PutSt w B g h s ext) (mb : (b, 84, [Value.pointer (some ⟨g, 0, none⟩)]) ∈ ext) (hsz : s.size + 38 ≤ 65536) :
    Calls Try.prog 80 #[.agg x.cells.toArray, .pointer (some ⟨b, 0, none⟩)] w fun e w' => e = .returned (.tuple #[]) ∧ PutSt w' B g h (s ++ x.bytes) ext ∧ Below B w w' := by
  obtain ⟨f1, f2, f3, f4, f5⟩ := x.fits hm
  obtain ⟨q, hq⟩ : ∃ q, w.heap.size = q := ⟨_, rfl⟩
  obtain ⟨C, hC⟩ : ∃ C, x.cells.toArray = C := ⟨_, rfl⟩
  have hCl : x.cells = C.toList := by rw [← hC]
  have hp0 : PutSt (w.alloc (.cells C 78)) B g h s ((q, 78, x.cells) :: ext) := by
    have := hp.with C 78
    rw [hq, ← hCl] at this
    exact this
  have hb0 : Below B w (w.alloc (.cells C 78)) := (Below.refl _ _).alloc hp.size _
  have fin : ∀ {W' : World} {s' : ByteArray}, PutSt W' B g h s' ((q, 78, x.cells) :: ext) → PutSt W' B g h s' ext := fun k => k.sub fun y hy => List.mem_cons_of_mem _ hy
  have cel : ∀ {W' : World} {s' : ByteArray}, PutSt W' B g h s' ((q, 78, x.cells) :: ext) → W'.cell? ⟨b, 0, none⟩ = some (.pointer (some ⟨g, 0, none⟩)) ∧ W'.cell? ⟨q, 0, none⟩ = some (.int .i64 x.num) ∧ W'.cell? ⟨q, 1, none⟩ = some (.int .i64 x.kind) ∧ W'.cell? ⟨q, 2, none⟩ = some (.int .i64 x.mode) ∧ W'.cell? ⟨q, 3, none⟩ = some (.int .i64 x.links) ∧ W'.cell? ⟨q, 4, none⟩ = some (.int .i64 x.size) ∧ W'.rangeAt q 5 (strCells x.root) := fun {W' s'} k => by
    have k1 := (k.held (List.mem_cons_of_mem _ mb)).cell 0
    have kx := k.held (List.mem_cons_self ..)
    refine ⟨by simpa using k1, ?_, ?_, ?_, ?_, ?_, x.root_at hx kx⟩ <;> rw [kx.cell] <;> rfl
  have cl := hid (fun (W' : World) (s' : ByteArray) => @cel W' s')
  have fn := hid (fun (W' : World) (s' : ByteArray) => @fin W' s')
  have hroot : HashOf (strCells x.root).toArray x.root := ⟨rfl, hx⟩
  have hih : (Try.prog.info? 76).map (·.size) = some (strCells x.root).length := by rw [strCells_length, show x.root.size = 32 from hx]; exact Try.infoHash
  obtain ⟨s1, hs1⟩ : ∃ s1, s ++ be (1 : Int).toNat x.num.toNat = s1 := ⟨_, rfl⟩
  obtain ⟨s2, hs2⟩ : ∃ s2, s1 ++ be (1 : Int).toNat x.kind.toNat = s2 := ⟨_, rfl⟩
  obtain ⟨s3, hs3⟩ : ∃ s3, s2 ++ be (1 : Int).toNat x.mode.toNat = s3 := ⟨_, rfl⟩
  obtain ⟨s4, hs4⟩ : ∃ s4, s3 ++ be (1 : Int).toNat x.links.toNat = s4 := ⟨_, rfl⟩
  obtain ⟨s5, hs5⟩ : ∃ s5, s4 ++ be (2 : Int).toNat x.size.toNat = s5 := ⟨_, rfl⟩
  have z1 : s1.size = s.size + 1 := by rw [← hs1, ByteArray.size_append, be_size]; rfl
  have z2 : s2.size = s1.size + 1 := by rw [← hs2, ByteArray.size_append, be_size]; rfl
  have z3 : s3.size = s2.size + 1 := by rw [← hs3, ByteArray.size_append, be_size]; rfl
  have z4 : s4.size = s3.size + 1 := by rw [← hs4, ByteArray.size_append, be_size]; rfl
  have z5 : s5.size = s4.size + 2 := by rw [← hs5, ByteArray.size_append, be_size]; rfl
  have hend := hid (show s5 ++ x.root = s ++ x.bytes from by
    rw [← hs5, ← hs4, ← hs3, ← hs2, ← hs1]
    unfold Ino.bytes
    simp only [ByteArray.append_assoc]
    rfl)
  have n1 := hid (fun W' (k : PutSt W' B g h s ((q, 78, x.cells) :: ext)) => cNum_any x.num 1 f1 B g h s _ W' k (by show s.size + 1 ≤ 65536; omega))
  rw [hs1] at n1
  have n2 := hid (fun W' (k : PutSt W' B g h s1 ((q, 78, x.cells) :: ext)) => cNum_any x.kind 1 f2 B g h s1 _ W' k (by show s1.size + 1 ≤ 65536; omega))
  rw [hs2] at n2
  have n3 := hid (fun W' (k : PutSt W' B g h s2 ((q, 78, x.cells) :: ext)) => cNum_any x.mode 1 f3 B g h s2 _ W' k (by show s2.size + 1 ≤ 65536; omega))
  rw [hs3] at n3
  have n4 := hid (fun W' (k : PutSt W' B g h s3 ((q, 78, x.cells) :: ext)) => cNum_any x.links 1 f4 B g h s3 _ W' k (by show s3.size + 1 ≤ 65536; omega))
  rw [hs4] at n4
  have n5 := hid (fun W' (k : PutSt W' B g h s4 ((q, 78, x.cells) :: ext)) => cNum_any x.size 2 f5 B g h s4 _ W' k (by show s4.size + 2 ≤ 65536; omega))
  rw [hs5] at n5
  have n6 := hid (fun W' (k : PutSt W' B g h s5 ((q, 78, x.cells) :: ext)) => cHash_any (strCells x.root).toArray x.root hroot B g h s5 _ W' k (by omega))
  have hp0' := hid hp0
  have hb0' := hid hb0
  obtain ⟨c0, c1, -, -, -, -, -⟩ := cel hp0
  have hq' := hid hq
  clear hx hp hp0 hb0 cel fin f1 f2 f3 f4 f5 hs1 hs2 hs3 hs4 hs5 z1 z2 z3 z4 z5 hm hsz mb hCl
  rw [hC]
  clear hC
  go_enter Try.func80, Try.ntmps80
  go_wp2_with fail
  refine (n1.out _ hp0'.out).mono ?_
  rintro e w1 ⟨rfl, h1, h2⟩
  obtain ⟨c0, -, c1, -, -, -, -⟩ := cl.out _ _ h1
  have p1' := hid h1
  have hb1' := hid (hb0'.out.trans h2)
  clear h1 h2
  go_wp2_with fail
  refine (n2.out _ p1'.out).mono ?_
  rintro e w2 ⟨rfl, h1, h2⟩
  obtain ⟨c0, -, -, c1, -, -, -⟩ := cl.out _ _ h1
  have p2' := hid h1
  have hb2' := hid (hb1'.out.trans h2)
  clear h1 h2
  go_wp2_with fail
  refine (n3.out _ p2'.out).mono ?_
  rintro e w3 ⟨rfl, h1, h2⟩
  obtain ⟨c0, -, -, -, c1, -, -⟩ := cl.out _ _ h1
  have p3' := hid h1
  have hb3' := hid (hb2'.out.trans h2)
  clear h1 h2
  go_wp2_with fail
  refine (n4.out _ p3'.out).mono ?_
  rintro e w4 ⟨rfl, h1, h2⟩
  obtain ⟨c0, -, -, -, -, c1, -⟩ := cl.out _ _ h1
  have p4' := hid h1
  have hb4' := hid (hb3'.out.trans h2)
  clear h1 h2
  go_wp2_with fail
  refine (n5.out _ p4'.out).mono ?_
  rintro e w5 ⟨rfl, h1, h2⟩
  obtain ⟨c0, -, -, -, -, -, c1⟩ := cl.out _ _ h1
  have p5' := hid h1
  have hb5' := hid (hb4'.out.trans h2)
  clear h1 h2
  go_wp2_with (first
    | ((with_reducible refine at_slot (some 25) ?_); refine wpList_load_mid rfl 76 (.tmp 24) rfl q 5 rfl (strCells x.root) _ (by exact c1) Try.underlying76 rfl (by exact hih) ?_)
    | fail)
  refine (n6.out _ p5'.out).mono ?_
  rintro e w6 ⟨rfl, h1, h2⟩
  rw [hend.out] at h1
  have p6' := hid (fn.out _ _ h1)
  have hb6' := hid (hb5'.out.trans h2)
  clear h1 h2
  go_wp2_with fail
  go_end0
  exact ⟨rfl, p6'.out, hb6'.out⟩

end Go.Proofs.Ytapegklffglnoaa
namespace Go.Proofs.Ytapegklffglnoaa
open Go.RowKit

/-- The bytes of inodes behind s. -/
def tabFrom (s : ByteArray) (xs : List Ino) : ByteArray := xs.foldl (fun s x => s ++ x.bytes) s
theorem tabFrom_next {s : ByteArray} {xs : List Ino} {k : Nat} {x : Ino} (h : xs[k]? = some x) : tabFrom s (xs.take (k + 1)) = tabFrom s (xs.take k) ++ x.bytes := by
  rw [List.take_add_one, h]
  simp [tabFrom]
theorem tabFrom_size {xs : List Ino} : ∀ {s : ByteArray}, (∀ x ∈ xs, x.fine) → (tabFrom s xs).size = s.size + 38 * xs.length := by
  induction xs with
  | nil => intro s _; rfl
  | cons x xs ih =>
    intro s h
    show (tabFrom (s ++ x.bytes) xs).size = _
    rw [ih fun y hy => h y (List.mem_cons_of_mem _ hy), ByteArray.size_append, Ino.bytes_size (h x (List.mem_cons_self ..)), List.length_cons]
    omega

set_option maxRecDepth 100000 in
set_option maxHeartbeats 4000000 in
theorem listIno_any (A : Option Addr) (n c : Nat) (xs : List Ino) (B g h b : Nat) (s : ByteArray) (ext : Exts) (w : World) (hp : PutSt w B g h s ext) (mb : (b, 84, [Value.pointer (some ⟨g, 0, none⟩)]) ∈ ext)
    (hxs : Inos w B A n xs) (hall : ∀ x ∈ xs, x.may = true) (hn : n ≤ 255) (hsz : s.size + 1 + 38 * n ≤ 65536) :
    Calls Try.prog 79 #[.pointer (some ⟨g, 0, none⟩), .int .i64 1, .slice A n c, .func (.func 80) #[] #[.pointer (some ⟨b, 0, none⟩)]] w
      fun e w' => e = .returned (.tuple #[]) ∧ PutSt w' B g h (tabFrom (s ++ be 1 n) xs) ext ∧ Below B w w' := by
  have hN := cNum_any (n : Int) 1 (fits1 (by omega) (by omega)) B g h s ext w hp (by show s.size + 1 ≤ 65536; omega)
  obtain ⟨s0, hs0⟩ : ∃ s0, s ++ be 1 n = s0 := ⟨_, rfl⟩
  rw [show be (1 : Int).toNat (n : Int).toNat = be 1 n from rfl, hs0] at hN
  rw [hs0]
  have hz0 : s0.size = s.size + 1 := by rw [← hs0, ByteArray.size_append, be_size]
  have hlen := hxs.1
  have hfine := hid hxs.2.1
  have hput := hid (fun (x : Ino) (hx : x.fine) (hm : x.may = true) (s' : ByteArray) (W : World) (k : PutSt W B g h s' ext) (hz : s'.size + 38 ≤ 65536) => putIno_any x hx hm B g h b s' ext W k mb hz)
  have hN' := hid hN
  have h' := hid hxs
  have hall' := hid hall
  have hBw := hid hp.size
  have hsz' := hid hsz
  have hz0' := hid hz0
  clear hp hN hxs hall mb hs0 hz0 hsz
  go_enter Try.func79, Try.ntmps79
  go_wp2_with fail
  refine hN'.out.mono ?_
  rintro e w1 ⟨rfl, h1, h2⟩
  have h1' := hid h1
  have h2' := hid h2
  clear h1 h2
  go_wp2_with fail
  go_loopw [17] (fun i wr => ∃ k : Nat, k ≤ n ∧ i = .int .i64 (k : Int) ∧ Below B w wr ∧ PutSt wr B g h (tabFrom s0 (xs.take k)) ext) (fun i _ => n - (intOf i).toNat)
  case atStart => exact ⟨0, Nat.zero_le _, rfl, h2'.out, h1'.out⟩
  case round =>
    obtain ⟨k, hk, rfl, hBr, hpr⟩ := hrel
    have hBr' := hid hBr
    by_cases hlt : k < n
    · obtain ⟨p, a, hpA, hpB, ha, hfa, hca⟩ := (h'.out.below hBr).get (k := k) hlt
      subst hpA
      have hlt' : (k : Int) < (n : Int) := by omega
      have hi1 : (Try.prog.info? 78).map (·.size) = some a.cells.length := by rw [Ino.len hfa]; exact Try.infoIno
      have hca' := hid hca
      have ha' := hid ha
      have hpr' := hid hpr
      clear hBr hca ha hpr
      have hth := ino_there wr hfa
      have hsz := ino_size hfa
      have hone := a.one
      go_wp2_with (first
        | ((with_reducible refine at_slot (some 20) ?_); refine wpList_load_any rfl _ _ rfl _ rfl _ _ (by exact hca'.out) Try.underlying78 rfl hi1 ?_)
        | ((with_reducible refine at_slot (some 9) ?_); refine wpList_run rfl (.pointer (some ⟨wr.heap.size, 0, none⟩)) (wr.alloc (.cells z37 78)) (by kernel_rfl) ?_)
        | ((with_reducible refine at_slot none ?_); refine wpList_store_mid rfl 78 (.tmp 9) (.tmp 20) rfl wr.heap.size 0 a.cells.toArray rfl rfl (by exact hth) (by exact hsz) (by exact hone) ?_; obtain ⟨W1, hW1⟩ : ∃ W1, (wr.alloc (.cells z37 78)).setCells wr.heap.size 0 a.cells = W1 := ⟨_, rfl⟩; obtain ⟨hv, hb1⟩ := ino_var hfa hW1; rw [hW1]; have hvr := holds_range hv; have hb1' := hid hb1; have hp1 := hpr'.out.keep hb1; have hgood := hp1.good; have hp1' := hid hp1; clear hW1 hv hb1 hp1)
        | ((with_reducible refine at_slot (some 26) ?_); refine wpList_load_mid rfl 78 (.tmp 9) rfl wr.heap.size 0 rfl a.cells _ (by exact hvr) Try.underlying78 rfl (by exact hi1) ?_)
        | fail)
      have hmem : a ∈ xs := List.mem_of_getElem? ha'.out
      have hsk : (tabFrom s0 (xs.take k)).size + 38 ≤ 65536 := by
        rw [tabFrom_size fun x hx => hfine.out x (List.mem_of_mem_take hx), List.length_take, hz0'.out]
        have := hsz'.out
        omega
      have hc := hput.out a hfa (hall'.out a hmem) _ W1 hp1'.out hsk
      rw [← tabFrom_next ha'.out] at hc
      refine hc.mono ?_
      rintro e w2 ⟨rfl, h1, h2⟩
      have hp2 := hid h1
      have hb2 := hid ((hBr'.out.trans (hb1'.out.mono (Nat.le_trans hBw.out hBr'.out.size))).trans h2)
      clear h1 h2 hc hsk hmem
      go_wp2_with fail
      go_roundw
      case rel => exact ⟨k + 1, by omega, by go_num, hb2.out, hp2.out⟩
      case measure => simp [intOf]; omega
    · have hlt' : ¬ (k : Int) < (n : Int) := by omega
      have e1 : k = n := by omega
      rw [e1, ← hlen, List.take_length] at hpr
      have hpr' := hid hpr
      clear hpr hBr e1
      go_wp2_with fail
      go_end0
      exact ⟨rfl, hpr'.out, hBr'.out⟩

end Go.Proofs.Ytapegklffglnoaa
namespace Go.Proofs.Ytapegklffglnoaa
open Go.RowKit

/-- A table's bytes. -/
def tabBytes (xs : List Ino) : ByteArray := tabFrom ((⟨#[]⟩ : ByteArray) ++ ⟨#[84]⟩ ++ be 1 xs.length) xs
noncomputable def putS (xs : List Ino) : ByteArray × Int := if itabB xs then (tabBytes xs, 0) else (⟨#[]⟩, 1400)
theorem putS_yes {xs : List Ino} (h : itabB xs = true) : putS xs = (tabBytes xs, 0) := by unfold putS; rw [if_pos h]
theorem putS_no {xs : List Ino} (h : itabB xs = false) : putS xs = (⟨#[]⟩, 1400) := by unfold putS; rw [if_neg (by rw [h]; decide)]
def PutPost (s : ByteArray) (x : Int) (w : World) (e : Ending) (w' : World) : Prop := e = .returned (.tuple #[.string s, .int .i64 x]) ∧ Below w.heap.size w w'

theorem Ino.num_may {x : Ino} (h : x.may = true) : 1 ≤ x.num ∧ x.num ≤ 32 := by
  unfold Ino.may mayB at h
  have h := of_decide_eq_true h
  omega
theorem rises_num {xs : List Ino} (h : Itab xs) : ∀ i (hi : i < xs.length), (i : Int) + 1 ≤ xs[i].num
  | 0, hi => by have := (xs[0].num_may (h.1 _ (List.getElem_mem hi))).1; omega
  | i + 1, hi => by
    have h1 := rises_num h i (by omega)
    have h2 := h.2 i _ _ hi (List.getElem?_eq_getElem (by omega)) (List.getElem?_eq_getElem hi)
    omega
theorem itab_len {xs : List Ino} (h : Itab xs) : xs.length ≤ 32 := by
  by_cases e : xs.length = 0
  · omega
  · have h1 := rises_num h (xs.length - 1) (by omega)
    have h2 := ((xs[xs.length - 1]'(by omega)).num_may (h.1 _ (List.getElem_mem _))).2
    omega

set_option maxRecDepth 100000 in
set_option maxHeartbeats 2000000 in
theorem itabPut_any (A : Option Addr) (n c B : Nat) (xs : List Ino) (w : World) (h : Inos w B A n xs) (hB : B ≤ w.heap.size) (hn : n ≤ 10000000000000) (s : ByteArray) (x : Int) (hs : putS xs = (s, x)) :
    Calls Try.prog 39 #[.slice A n c] w (PutPost s x w) := by
  have hM := hid (itabMay_any A n c B xs w h hB hn)
  have hlen := h.1
  have h' := hid h
  have hB' := hid hB
  cases hi : itabB xs with
  | false =>
    rw [putS_no hi] at hs
    obtain ⟨rfl, rfl⟩ := Prod.mk.inj hs
    rw [hi] at hM
    clear h hB hi hs
    go_enter Try.func39, Try.ntmps39
    go_wp2_with fail
    refine hM.out.mono ?_
    rintro e w1 ⟨rfl, h1⟩
    have h1' := hid h1
    clear h1
    go_wp2_with fail
    go_ret2
    exact ⟨rfl, h1'.out⟩
  | true =>
    rw [putS_yes hi] at hs
    obtain ⟨rfl, rfl⟩ := Prod.mk.inj hs
    rw [hi] at hM
    have hT := itabB_of hi
    have hle := itab_len hT
    have hall := hid hT.1
    clear h hB hi hs hT
    go_enter Try.func39, Try.ntmps39
    go_wp2_with fail
    refine hM.out.mono ?_
    rintro e w1 ⟨rfl, h1⟩
    have h1' := hid h1
    have hI1 := hid ((h'.out.more hB'.out).below h1)
    clear h1
    go_wp2_with (go_at_call 52; refine (codecNew_any _).mono ?_; rintro e w' ⟨rfl, rfl⟩)
    have hp0 := PutSt.fresh w1
    have hb0 : Below w1.heap.size w1 _ := (((Below.refl w1.heap.size w1).alloc (Nat.le_refl _) (.cells #[.slice none 0 0] 154)).alloc (by simp) (.cells #[.pointer (some ⟨w1.heap.size, 0, none⟩), .bool false] 130)).alloc (by simp; omega) (.cells #[.pointer (some ⟨w1.heap.size + 1, 0, none⟩)] 84)
    have hb0' := hid hb0
    refine (cMark_any 84 _ _ _ _ _ _ hp0 (by decide)).mono ?_
    rintro e w2 ⟨rfl, h2, hb2⟩
    obtain ⟨q, hq⟩ : ∃ q, w1.heap.size = q := ⟨_, rfl⟩
    have hIq : Inos w1 q A n xs := hI1.out.more (by rw [← hq]; exact h1'.out.size)
    rw [hq] at h2 hb0 hb2
    have hI2 := (hIq.below (hb0.trans hb2))
    have hBq := hid (h1'.out.trans ((hb0.trans hb2).mono (by rw [← hq]; exact h1'.out.size)))
    have hc2 := (h2.held (List.mem_cons_self ..)).cell 0
    simp at hc2
    have hL := hid (listIno_any A n c xs q (q + 1) q (q + 1 + 1) _ _ w2 h2 (List.mem_cons_self ..) hI2 hall.out (by omega) (by rw [ByteArray.size_append]; show 0 + 1 + 1 + 38 * n ≤ 65536; omega))
    rw [show tabFrom (ByteArray.empty ++ ⟨#[84]⟩ ++ be 1 n) xs = tabBytes xs from by unfold tabBytes; rw [hlen]; rfl] at hL
    clear hp0 hb0 hb0' hb2 h2 hI2 hIq
    rw [hq]
    go_wp2_with fail
    refine hL.out.mono ?_
    rintro e w3 ⟨rfl, h3, hb3⟩
    have hc3 := (h3.held (List.mem_cons_self ..)).cell 0
    simp at hc3
    have hA := hid (cAll_any q (q + 1) q _ _ w3 h3)
    have hB3 := hid (hBq.out.trans (hb3.mono (by rw [← hq]; exact h1'.out.size)))
    clear h3 hb3
    go_wp2_with fail
    refine hA.out.mono ?_
    rintro e w4 ⟨rfl, h4⟩
    have hB4 := hid (hB3.out.trans (h4.mono (by rw [← hq]; exact h1'.out.size)))
    clear h4
    go_wp2_with fail
    go_ret2
    exact ⟨rfl, hB4.out⟩

end Go.Proofs.Ytapegklffglnoaa
namespace Go.Proofs.Ytapegklffglnoaa
open Go.RowKit
open Go.Lib (strCells strCells_length strCells_oneCell)

theorem place_list (o : Nat) (l : List Value) (k : Nat) (Z : Array Value) : (l.zipIdx k).foldl (fun cs p => cs.setIfInBounds (o + p.2) p.1) Z = (l.zipIdx (o + k)).foldl (fun cs p => cs.setIfInBounds p.2 p.1) Z := by
  induction l generalizing k Z with
  | nil => rfl
  | cons v l ih => rw [List.zipIdx_cons, List.zipIdx_cons, List.foldl_cons, List.foldl_cons, ih (k + 1)]; rfl
/-- A part of a literal that is an array whose cells are not written out. -/
theorem place_at (o n : Nat) (Y Z : Array Value) (hn : Y.size = n) (h : o + n ≤ Z.size) : Array.foldl (fun cs (x : Value × Nat) => cs.setIfInBounds (o + x.snd) x.fst) Z Y.zipIdx 0 n = (put Z.toList o Y.toList).toArray := by
  subst hn
  have e : Y.size = Y.zipIdx.size := by simp
  rw [e, ← Array.foldl_toList, Array.toList_zipIdx, place_list, Nat.add_zero, foldl_place _ _ _ (by rw [Array.length_toList]; exact h)]

/-- An inode read: what it is, what is left, has it failed? -/
def rinoS (l : ByteArray) (f : Bool) : Ino × ByteArray × Bool :=
  let a := rnumS l f 1
  let b := rnumS a.2.1 a.2.2 1
  let c := rnumS b.2.1 b.2.2 1
  let d := rnumS c.2.1 c.2.2 1
  let e := rnumS d.2.1 d.2.2 2
  let x := rhashS e.2.1 e.2.2
  (⟨a.1, b.1, c.1, d.1, e.1, x.1⟩, x.2.1, x.2.2)

/-- What is held, the cells of an inode's variable written whole. -/
theorem GetSt.putIno {w : World} {B g h : Nat} {l : ByteArray} {f : Bool} {ext : Exts} {q : Nat} (x : Ino) (hx : x.fine) (hp : GetSt w B g h l f ((q, 78, z37.toList) :: ext)) (hn : ExtLt q g h ext) (hB : B ≤ q) :
    ∃ V, w.setCells q 0 x.cells = V ∧ V.heap[q]? = some (.cells x.cells.toArray 78 (0, 0)) ∧ GetSt V B g h l f ext ∧ Below B w V ∧ w.there q 0 x.cells.toArray.size := by
  have hh := hp.held (List.mem_cons_self ..)
  have hl : z37.toList.length = 37 := by decide
  refine ⟨_, rfl, ?_, GetSt.far hp.tail hn (Nat.le_refl _) _, below_setCells (Below.refl _ _) _ _ _ hB, hh.there 0 _ (by rw [List.size_toArray, Ino.len hx, hl]; decide)⟩
  have h1 := hh.put 0 x.cells (by rw [Ino.len hx, hl]; decide)
  rw [put_all _ _ (by rw [Ino.len hx, hl])] at h1
  unfold Holds at h1
  simpa using h1

set_option maxRecDepth 100000 in
set_option maxHeartbeats 4000000 in
theorem getIno_any (x : Ino) (l' : ByteArray) (f' : Bool) (B g h b : Nat) (l : ByteArray) (f : Bool) (ext : Exts) (w : World) (hp : GetSt w B g h l f ext) (hk : rinoS l f = (x, l', f'))
    (mb : (b, 94, [Value.pointer (some ⟨g, 0, none⟩)]) ∈ ext) :
    Calls Try.prog 84 #[.pointer (some ⟨b, 0, none⟩)] w fun e w' => e = .returned (.agg x.cells.toArray) ∧ x.fine ∧ GetSt w' B g h l' f' ext ∧ Below B w w' := by
  obtain ⟨a1, l1, f1, e1⟩ : ∃ a1 l1 f1, rnumS l f 1 = (a1, l1, f1) := ⟨_, _, _, rfl⟩
  obtain ⟨a2, l2, f2, e2⟩ : ∃ p q r, rnumS l1 f1 1 = (p, q, r) := ⟨_, _, _, rfl⟩
  obtain ⟨a3, l3, f3, e3⟩ : ∃ p q r, rnumS l2 f2 1 = (p, q, r) := ⟨_, _, _, rfl⟩
  obtain ⟨a4, l4, f4, e4⟩ : ∃ p q r, rnumS l3 f3 1 = (p, q, r) := ⟨_, _, _, rfl⟩
  obtain ⟨a5, l5, f5, e5⟩ : ∃ p q r, rnumS l4 f4 2 = (p, q, r) := ⟨_, _, _, rfl⟩
  obtain ⟨y, l6, f6, e6⟩ : ∃ p q r, rhashS l5 f5 = (p, q, r) := ⟨_, _, _, rfl⟩
  have hk2 : ((⟨a1, a2, a3, a4, a5, y⟩ : Ino), l6, f6) = (x, l', f') := by
    rw [← hk]
    unfold rinoS
    simp only [e1, e2, e3, e4, e5, e6]
  obtain ⟨hx, hk3⟩ := Prod.mk.inj hk2
  obtain ⟨rfl, rfl⟩ := Prod.mk.inj hk3
  have hfx : x.fine := by rw [← hx]; exact rhashS_size e6
  have hlt := hid hp.lt
  have hBw := hid hp.size
  have hX : GetSt (w.alloc (.cells z37 78)) B g h l f ((w.heap.size, 78, z37.toList) :: ext) := hp.with z37 _
  have hb0 := hid (((Below.refl B w).alloc hp.size (.cells z37 78)).drew)
  have hp0 := hid (hX.keep (below_drew1 _))
  have n1 := hid (fun W (hW : GetSt W B g h l f ((w.heap.size, 78, z37.toList) :: ext)) => cNumR_any 1 a1 f1 B g h l l1 f _ W hW e1)
  have n2 := hid (fun W (hW : GetSt W B g h l1 f1 ((w.heap.size, 78, z37.toList) :: ext)) => cNumR_any 1 a2 f2 B g h l1 l2 f1 _ W hW e2)
  have n3 := hid (fun W (hW : GetSt W B g h l2 f2 ((w.heap.size, 78, z37.toList) :: ext)) => cNumR_any 1 a3 f3 B g h l2 l3 f2 _ W hW e3)
  have n4 := hid (fun W (hW : GetSt W B g h l3 f3 ((w.heap.size, 78, z37.toList) :: ext)) => cNumR_any 1 a4 f4 B g h l3 l4 f3 _ W hW e4)
  have n5 := hid (fun W (hW : GetSt W B g h l4 f4 ((w.heap.size, 78, z37.toList) :: ext)) => cNumR_any 2 a5 f5 B g h l4 l5 f4 _ W hW e5)
  have n6 := hid (fun W (hW : GetSt W B g h l5 f5 ((w.heap.size, 78, z37.toList) :: ext)) => cHashR_any y f6 B g h l5 l6 f5 _ W hW e6)
  have cel : ∀ {W' : World} {l0 : ByteArray} {f0 : Bool}, GetSt W' B g h l0 f0 ((w.heap.size, 78, z37.toList) :: ext) → W'.cell? ⟨b, 0, none⟩ = some (.pointer (some ⟨g, 0, none⟩)) := fun k => by
    have k1 := (k.held (List.mem_cons_of_mem _ mb)).cell 0
    simpa using k1
  have cl := hid (fun (W' : World) (l0 : ByteArray) (f0 : Bool) => @cel W' l0 f0)
  have cv := hid (fun (W' : World) (l0 : ByteArray) (f0 : Bool) (k : GetSt W' B g h l0 f0 ext) => show W'.cell? ⟨b, 0, none⟩ = some (.pointer (some ⟨g, 0, none⟩)) from by
    have k1 := (k.held mb).cell 0
    simpa using k1)
  have c0 := cel (hX.keep (below_drew1 _))
  have hiS := ino_size hfx
  have hall := x.one
  have hiX : (Try.prog.info? 78).map (·.size) = some x.cells.length := by rw [Ino.len hfx]; exact Try.infoIno
  have hbuild : x.cells.toArray = #[Value.int .i64 a1, .int .i64 a2, .int .i64 a3, .int .i64 a4, .int .i64 a5] ++ hcells y := by
    rw [← hx]
    unfold Ino.cells hcells
    simp
  have hbuild' := hid hbuild
  have hYs := hid (hcells_of (rhashS_size e6)).len
  have hfx' := hid hfx
  have hx' := hid hx
  clear hp hX hk hk2 hk3 mb e1 e2 e3 e4 e5 e6 cel hbuild hx hfx
  go_enter Try.func84, Try.ntmps84
  go_wp2_with (first
    | ((with_reducible refine at_slot (some 1) ?_); refine wpList_run rfl (.pointer (some ⟨w.heap.size, 0, none⟩)) (w.alloc (.cells z37 78)) (by kernel_rfl) ?_)
    | fail)
  refine wp_region_held_drew (S := fun W => W.cell? ⟨b, 0, none⟩ = some (.pointer (some ⟨g, 0, none⟩))) (by kernel_rfl) (by exact c0) (fun hHeld => ?_)
  refine wpAnyH_take (i := 0) (v := .pointer (some ⟨g, 0, none⟩)) rfl (by kernel_rfl) (by kernel_rfl) (by kernel_rfl) (fun _ _ _ h => h) (.inl ⟨by kernel_rfl, fun w hw => by have hw1 := hw; go_simp⟩) hHeld ?_
  simp only [ly1, ly2, ly3, Act.put, ly5, ly6, ly7]
  refine wpAnyH_take (i := 2) (v := .pointer (some ⟨g, 0, none⟩)) rfl (by kernel_rfl) (by kernel_rfl) (by kernel_rfl) (fun _ _ _ h => h) (.inl ⟨by kernel_rfl, fun w hw => by have hw1 := hw; go_simp⟩) hHeld ?_
  simp only [ly1, ly2, ly3, Act.put, ly5, ly6, ly7]
  refine wpAnyH_take (i := 4) (v := .pointer (some ⟨g, 0, none⟩)) rfl (by kernel_rfl) (by kernel_rfl) (by kernel_rfl) (fun _ _ _ h => h) (.inl ⟨by kernel_rfl, fun w hw => by have hw1 := hw; go_simp⟩) hHeld ?_
  simp only [ly1, ly2, ly3, Act.put, ly5, ly6, ly7]
  refine wpAnyH_take (i := 6) (v := .pointer (some ⟨g, 0, none⟩)) rfl (by kernel_rfl) (by kernel_rfl) (by kernel_rfl) (fun _ _ _ h => h) (.inl ⟨by kernel_rfl, fun w hw => by have hw1 := hw; go_simp⟩) hHeld ?_
  simp only [ly1, ly2, ly3, Act.put, ly5, ly6, ly7]
  refine wpAnyH_take (i := 8) (v := .pointer (some ⟨g, 0, none⟩)) rfl (by kernel_rfl) (by kernel_rfl) (by kernel_rfl) (fun _ _ _ h => h) (.inl ⟨by kernel_rfl, fun w hw => by have hw1 := hw; go_simp⟩) hHeld ?_
  simp only [ly1, ly2, ly3, Act.put, ly5, ly6, ly7]
  refine wpAnyH_take (i := 10) (v := .pointer (some ⟨g, 0, none⟩)) rfl (by kernel_rfl) (by kernel_rfl) (by kernel_rfl) (fun _ _ _ h => h) (.inl ⟨by kernel_rfl, fun w hw => by have hw1 := hw; go_simp⟩) hHeld ?_
  simp only [ly1, ly2, ly3, Act.put, ly5, ly6, ly7]
  refine wpAnyH_ready (rs := [1]) (by kernel_rfl) (by simp) (AllReadyH.cons rfl (fun K hK => ?_) AllReadyH.nil)
  have hK' := hid hK
  clear hK
  rw [if_pos (by kernel_rfl)]
  simp only [ly1, ly2, ly3]
  go_simp
  refine (n1.out _ hp0.out).mono ?_
  rintro e w1 ⟨rfl, h1, h2⟩
  have c1 := cl.out _ _ _ h1
  have hp1 := hid h1
  have hb1 := hid (hb0.out.trans h2)
  clear h1 h2
  refine hK'.out _ _ (by exact c1) (fun hHeld => ?_)
  clear hK' K
  refine wpAnyH_ready (rs := [3]) (by kernel_rfl) (by simp) (AllReadyH.cons rfl (fun K hK => ?_) AllReadyH.nil)
  have hK' := hid hK
  clear hK
  rw [if_pos (by kernel_rfl)]
  simp only [ly1, ly2, ly3]
  go_simp
  refine (n2.out _ hp1.out).mono ?_
  rintro e w2 ⟨rfl, h1, h2⟩
  have c2 := cl.out _ _ _ h1
  have hp2 := hid h1
  have hb2 := hid (hb1.out.trans h2)
  clear h1 h2
  refine hK'.out _ _ (by exact c2) (fun hHeld => ?_)
  clear hK' K
  refine wpAnyH_ready (rs := [5]) (by kernel_rfl) (by simp) (AllReadyH.cons rfl (fun K hK => ?_) AllReadyH.nil)
  have hK' := hid hK
  clear hK
  rw [if_pos (by kernel_rfl)]
  simp only [ly1, ly2, ly3]
  go_simp
  refine (n3.out _ hp2.out).mono ?_
  rintro e w3 ⟨rfl, h1, h2⟩
  have c3 := cl.out _ _ _ h1
  have hp3 := hid h1
  have hb3 := hid (hb2.out.trans h2)
  clear h1 h2
  refine hK'.out _ _ (by exact c3) (fun hHeld => ?_)
  clear hK' K
  refine wpAnyH_ready (rs := [7]) (by kernel_rfl) (by simp) (AllReadyH.cons rfl (fun K hK => ?_) AllReadyH.nil)
  have hK' := hid hK
  clear hK
  rw [if_pos (by kernel_rfl)]
  simp only [ly1, ly2, ly3]
  go_simp
  refine (n4.out _ hp3.out).mono ?_
  rintro e w4 ⟨rfl, h1, h2⟩
  have c4 := cl.out _ _ _ h1
  have hp4 := hid h1
  have hb4 := hid (hb3.out.trans h2)
  clear h1 h2
  refine hK'.out _ _ (by exact c4) (fun hHeld => ?_)
  clear hK' K
  refine wpAnyH_ready (rs := [9]) (by kernel_rfl) (by simp) (AllReadyH.cons rfl (fun K hK => ?_) AllReadyH.nil)
  have hK' := hid hK
  clear hK
  rw [if_pos (by kernel_rfl)]
  simp only [ly1, ly2, ly3]
  go_simp
  refine (n5.out _ hp4.out).mono ?_
  rintro e w5 ⟨rfl, h1, h2⟩
  have c5 := cl.out _ _ _ h1
  have hp5 := hid h1
  have hb5 := hid (hb4.out.trans h2)
  clear h1 h2
  refine hK'.out _ _ (by exact c5) (fun hHeld => ?_)
  clear hK' K
  refine wpAnyH_ready (rs := [11]) (by kernel_rfl) (by simp) (AllReadyH.cons rfl (fun K hK => ?_) AllReadyH.nil)
  have hK' := hid hK
  clear hK
  rw [if_pos (by kernel_rfl)]
  simp only [ly1, ly2, ly3]
  go_simp
  refine (n6.out _ hp5.out).mono ?_
  rintro e w6 ⟨rfl, h1, h2⟩
  have c6 := cl.out _ _ _ h1
  have hp6 := hid h1
  have hb6 := hid (hb5.out.trans h2)
  clear h1 h2
  refine hK'.out _ _ (by exact c6) (fun hHeld => ?_)
  clear hK' K
  refine wpAnyH_take (i := 12) (v := .agg x.cells.toArray) rfl (by kernel_rfl) (by kernel_rfl) (by kernel_rfl) (fun _ _ _ h => h) (.inl ⟨by kernel_rfl, fun w _ => by rw [hbuild'.out]; have hys := hYs.out; generalize hcells y = Y at hys ⊢; go_simp; rw [place_at _ _ _ _ hys (by simp)]; simp [put, hys]⟩) hHeld ?_
  simp only [ly1, ly2, ly3, Act.put, ly5, ly6, ly7]
  refine wpAnyH_ready (rs := [13]) (by kernel_rfl) (by simp) (AllReadyH.cons rfl (fun K hK => ?_) AllReadyH.nil)
  have hK' := hid hK
  clear hK
  rw [if_pos (by kernel_rfl)]
  simp only [ly1, ly2, ly3]
  obtain ⟨V, hV1, hV2, hV3, hV4, hV5⟩ := GetSt.putIno x hfx'.out hp6.out hlt.out hBw.out
  have hV2' := hid hV2
  have hV3' := hid hV3
  have hV4' := hid (hb6.out.trans hV4)
  have cV := cv.out _ _ _ hV3
  refine wp_store_mid _ _ _ rfl w.heap.size 0 x.cells.toArray rfl rfl (by exact hV5) (by exact hiS) (by exact hall) ?_
  rw [hV1]
  clear hV1 hV2 hV3 hV4 hV5
  refine hK'.out _ _ (by exact cV) (fun hHeld => ?_)
  clear hK' K
  refine wpAnyH_done (by kernel_rfl) ?_ _
  go_wp2_with fail
  exact bodyPost_ret (results_cell_row rfl _ _ w.heap.size 78 x.cells.toArray (0, 0) _ rfl hV2'.out Try.underlying78 rfl (by exact hiX)) rfl ⟨rfl, hfx'.out, hV3'.out, hV4'.out⟩

end Go.Proofs.Ytapegklffglnoaa
namespace Go.Proofs.Ytapegklffglnoaa
open Go.RowKit
open Go.Lib (strCells strCells_length strCells_oneCell)

/-- So many inodes read: which, what is left, has it failed? -/
def itemsS : Nat → ByteArray → Bool → List Ino × ByteArray × Bool
  | 0, l, f => ([], l, f)
  | m + 1, l, f =>
    if (rinoS l f).2.2 then ([], (rinoS l f).2.1, true)
    else if (itemsS m (rinoS l f).2.1 false).2.2 then ([], (itemsS m (rinoS l f).2.1 false).2.1, true)
    else ((rinoS l f).1 :: (itemsS m (rinoS l f).2.1 false).1, (itemsS m (rinoS l f).2.1 false).2.1, false)

theorem itemsS_fail {m : Nat} {l l2 : ByteArray} {f : Bool} {x : Ino} (h : rinoS l f = (x, l2, true)) : itemsS (m + 1) l f = ([], l2, true) := by
  simp [itemsS, h]
theorem itemsS_next {m : Nat} {l l2 l' : ByteArray} {f f' : Bool} {x : Ino} {R : List Ino} (h : rinoS l f = (x, l2, false)) (hk : itemsS (m + 1) l f = (R, l', f')) :
    ∃ Y, itemsS m l2 false = (Y, l', f') ∧ (f' = true → R = []) ∧ (f' = false → R = x :: Y) := by
  obtain ⟨Y, l3, f3, e⟩ : ∃ p q r, itemsS m l2 false = (p, q, r) := ⟨_, _, _, rfl⟩
  cases f3 with
  | true =>
    simp [itemsS, h, e] at hk
    obtain ⟨rfl, rfl, rfl⟩ := hk
    exact ⟨Y, e, fun _ => rfl, fun h => by cases h⟩
  | false =>
    simp [itemsS, h, e] at hk
    obtain ⟨rfl, rfl, rfl⟩ := hk
    exact ⟨Y, e, fun h => (by cases h), fun _ => rfl⟩
theorem itemsS_nil {m : Nat} : ∀ {l l' : ByteArray} {f : Bool} {R : List Ino}, itemsS m l f = (R, l', true) → R = [] := by
  cases m with
  | zero => intro l l' f R h; exact (Prod.mk.inj h).1.symm
  | succ m =>
    intro l l' f R h
    unfold itemsS at h
    split at h
    · exact (Prod.mk.inj h).1.symm
    · split at h
      · exact (Prod.mk.inj h).1.symm
      · exact absurd (Prod.mk.inj (Prod.mk.inj h).2).2 (by decide)

theorem Try.infoInoI : (Try.prog.info? 78).map (fun i => (i.zero, i.size, i.bytes)) = some (some (.agg z37), 37, 72) := by kernel_rfl

/-- Inodes' cells in a row. -/
def inoCells (xs : List Ino) : List Value := xs.flatMap Ino.cells
theorem inoCells_snoc (xs : List Ino) (x : Ino) : inoCells (xs ++ [x]) = inoCells xs ++ x.cells := by simp [inoCells]
theorem inoCells_length {xs : List Ino} (h : ∀ x ∈ xs, x.fine) : (inoCells xs).length = xs.length * 37 := by
  induction xs with
  | nil => rfl
  | cons x xs ih =>
    show (x.cells ++ inoCells xs).length = _
    rw [List.length_append, Ino.len (h x (List.mem_cons_self ..)), ih fun y hy => h y (List.mem_cons_of_mem _ hy), List.length_cons]
    omega
theorem inoCells_at {xs : List Ino} (h : ∀ x ∈ xs, x.fine) : ∀ (i : Nat) (hi : i < xs.length) (j : Nat) (v : Value), xs[i].cells[j]? = some v → (inoCells xs)[i * 37 + j]? = some v := by
  induction xs with
  | nil => intro i hi; cases hi
  | cons x xs ih =>
    intro i hi j v hv
    have hx := Ino.len (h x (List.mem_cons_self ..))
    show (x.cells ++ inoCells xs)[_]? = _
    cases i with
    | zero =>
      have hj : j < x.cells.length := (List.getElem?_eq_some_iff.1 hv).1
      rw [Nat.zero_mul, Nat.zero_add, List.getElem?_append_left hj]
      exact hv
    | succ i =>
      rw [List.getElem?_append_right (by rw [hx]; omega), show (i + 1) * 37 + j - x.cells.length = i * 37 + j from by rw [hx]; omega]
      exact ih (fun y hy => h y (List.mem_cons_of_mem _ hy)) i (by simpa using hi) j v hv

/-- The row of the inodes read so far: what is held of it. -/
def Got (n0 : Nat) (A : Option Addr) (c : Nat) (xs : List Ino) (ex : Exts) : Prop :=
  (∀ x ∈ xs, x.fine) ∧ ((A = none ∧ c = 0 ∧ xs = [] ∧ ex = []) ∨
    ∃ rb cur, A = some ⟨rb, 0, none⟩ ∧ n0 ≤ rb ∧ ex = [(rb, 78, cur)] ∧ xs.length ≤ c ∧ c ≤ maxLen ∧ cur.length = c * 37 ∧ cur.take (xs.length * 37) = inoCells xs)
theorem Got.none (n0 : Nat) : Got n0 none 0 [] [] := ⟨fun x hx => (by cases hx), .inl ⟨rfl, rfl, rfl, rfl⟩⟩

section
variable {w w' : World} {B g h n0 : Nat} {l : ByteArray} {f : Bool} {ext ex : Exts} {A : Option Addr} {c : Nat} {xs : List Ino}

theorem GetSt.keepN (hp : GetSt w B g h l f ext) {n : Nat} (hn : ExtLt n g h ext) (hb : Below n w w') : GetSt w' B g h l f ext :=
  ⟨hp.1.below hb hn.1, Holds.below hp.2.1 hb hn.2.1, hp.2.2.1, fun x hx => ⟨(hp.2.2.2.1 x hx).1.below hb (hn.2.2 x hx), (hp.2.2.2.1 x hx).2⟩, hp.2.2.2.2.1, hp.2.2.2.2.2.1, Nat.le_trans hp.2.2.2.2.2.2 hb.size⟩

theorem Got.own (hg : Got n0 A c xs ex) (hp : GetSt w B g h l f (ex ++ ext)) : w.ownsRow n0 78 37 (.slice A xs.length c) xs.length (inoCells xs) := by
  obtain ⟨hf, ⟨rfl, rfl, rfl, rfl⟩ | ⟨rb, cur, rfl, hrb, rfl, h1, h2, h3, h4⟩⟩ := hg
  · exact World.ownsRow_nil w _ _ _
  · have hh := hp.held (q := rb) (t := 78) (cs := cur) (List.mem_append_left _ (List.mem_singleton.2 rfl))
    exact ⟨inoCells_length hf, .inr ⟨rb, c, cur.toArray, rfl, hrb, hh, h1, h2, by rw [List.size_toArray, h3], by simpa using h4⟩⟩

theorem Got.of_own (hf : ∀ x ∈ xs, x.fine) (hlt : ExtLt n0 g h ext) (hp : GetSt w B g h l f ext) (hrow : w.ownsRow n0 78 37 (.slice A xs.length c) xs.length (inoCells xs)) : ∃ ex, Got n0 A c xs ex ∧ GetSt w B g h l f (ex ++ ext) := by
  obtain ⟨_, ⟨hv, h0⟩ | ⟨rb, cap, cur, hv, hrb, hh, h1, h2, h3, h4⟩⟩ := hrow
  · injection hv with e1 e2 e3
    subst e1; subst e3
    obtain rfl := List.eq_nil_of_length_eq_zero h0
    exact ⟨[], Got.none n0, hp⟩
  · injection hv with e1 e2 e3
    subst e1; subst e3
    refine ⟨[(rb, 78, cur.toList)], ⟨hf, .inr ⟨rb, cur.toList, rfl, hrb, rfl, h1, h2, by rw [Array.length_toList, h3], h4⟩⟩, ?_⟩
    obtain ⟨k1, k2, k3, k4, k5, k6, k7⟩ := hp
    refine ⟨k1, k2, k3, fun x hx => ?_, k5, k6, k7⟩
    rcases List.mem_cons.1 hx with rfl | hx
    · exact ⟨hh, fun e => by have := hlt.1; dsimp only at e; omega, fun e => by have := hlt.2.1; dsimp only at e; omega⟩
    · exact k4 x hx

theorem Got.inos (hg : Got n0 A c xs ex) (hp : GetSt w B g h l f (ex ++ ext)) : Inos w w.heap.size A xs.length xs := by
  have hat := At.of_own (hg.own hp)
  refine ⟨rfl, hg.1, ?_⟩
  rcases hat.2 with h0 | ⟨p, hA, hB, hc⟩
  · exact .inl h0
  · refine .inr ⟨p, hA, hB, fun i hi j v hv => ?_⟩
    have h1 := inoCells_at hg.1 i hi j v hv
    obtain ⟨hlt, hv2⟩ := List.getElem?_eq_some_iff.1 h1
    have h2 := hc _ hlt
    rw [hv2] at h2
    rw [show (p.add (i * 37)).add j = p.add (i * 37 + j) from add_add _ _ _]
    exact h2
end

theorem rnumS_small {l l' : ByteArray} {f f' : Bool} {x : Int} (h : rnumS l f 1 = (x, l', f')) : 0 ≤ x ∧ x ≤ 255 := by
  unfold rnumS at h
  split at h
  · rw [← (Prod.mk.inj h).1]; decide
  · split at h
    · rw [← (Prod.mk.inj h).1]
      unfold readNum
      rw [show isSizeB 1 = true from rfl, if_pos rfl]
      split
      · exact ⟨Int.le_refl _, by show (0 : Int) ≤ 255; decide⟩
      · rename_i hs
        have h1 := numL_lt (l.extract 0 (1 : Int).toNat).data.toList
        have h2 : (l.extract 0 (1 : Int).toNat).data.toList.length = 1 := by
          rw [Array.length_toList]
          show (l.extract 0 1).size = 1
          rw [ByteArray.size_extract]
          omega
        rw [h2] at h1
        show 0 ≤ ((num (l.extract 0 (1 : Int).toNat) : Nat) : Int) ∧ ((num (l.extract 0 (1 : Int).toNat) : Nat) : Int) ≤ 255
        have h3 : num (l.extract 0 (1 : Int).toNat) < 256 ^ 1 := h1
        omega
    · rw [← (Prod.mk.inj h).1]; decide

end Go.Proofs.Ytapegklffglnoaa
namespace Go.Proofs.Ytapegklffglnoaa
open Go.RowKit

/-- What Items answers. -/
def ItemsPost (B g h n0 : Nat) (ext : Exts) (R : List Ino) (l' : ByteArray) (f' : Bool) (w : World) (e : Ending) (w' : World) : Prop :=
  ∃ A c ex, e = .returned (.slice A R.length c) ∧ Got n0 A c R ex ∧ GetSt w' B g h l' f' (ex ++ ext) ∧ Below B w w'

set_option maxRecDepth 100000 in
set_option maxHeartbeats 6000000 in
theorem itemsIno_any (R : List Ino) (x : Int) (l1 l' : ByteArray) (f1 f' : Bool) (B g h b : Nat) (l : ByteArray) (f : Bool) (ext : Exts) (w : World) (hp : GetSt w B g h l f ext) (hk1 : rnumS l f 1 = (x, l1, f1)) (hk : itemsS x.toNat l1 f1 = (R, l', f'))
    (mb : (b, 94, [Value.pointer (some ⟨g, 0, none⟩)]) ∈ ext) :
    Calls Try.prog 83 #[.pointer (some ⟨g, 0, none⟩), .int .i64 1, .func (.func 84) #[] #[.pointer (some ⟨b, 0, none⟩)]] w (ItemsPost B g h w.heap.size ext R l' f' w) := by
  obtain ⟨ih, hhi, hhz, hhs, hhb⟩ := info_parts Try.infoInoI
  obtain ⟨hx0, hx1⟩ := rnumS_small hk1
  obtain ⟨m, rfl⟩ : ∃ m : Nat, x = (m : Int) := ⟨x.toNat, by omega⟩
  have hm : m ≤ 255 := by omega
  rw [Int.toNat_natCast] at hk
  have hlt := hid hp.lt
  have hBw := hid hp.size
  have hN := hid (cNumR_any 1 (m : Int) f1 B g h l l1 f ext w hp hk1)
  obtain ⟨n0, hn0⟩ : ∃ n0, w.heap.size = n0 := ⟨_, rfl⟩
  have hget := hid (fun (y : Ino) (l2 l3 : ByteArray) (f2 f3 : Bool) (ex : Exts) (W : World) (k : GetSt W B g h l2 f2 (ex ++ ext)) (hr : rinoS l2 f2 = (y, l3, f3)) => getIno_any y l3 f3 B g h b l2 f2 (ex ++ ext) W k hr (List.mem_append_right _ mb))
  rw [hn0] at hlt hBw
  have hn0' := hid hn0
  have hk' := hid hk
  rw [hn0]
  clear hp hk hk1 hx0 hx1 mb hn0
  go_enter Try.func83, Try.ntmps83
  go_wp2_with fail
  refine hN.out.mono ?_
  rintro e w1 ⟨rfl, h1, h2⟩
  have h1' := hid h1
  have h2' := hid h2
  clear h1 h2
  go_wp2_with fail
  go_loopw [7, 12] (fun v i wr => ∃ (k : Nat) (xs : List Ino) (A : Option Addr) (c : Nat) (ex : Exts) (lk : ByteArray) (fk : Bool) (Y : List Ino), k = xs.length ∧ k ≤ m ∧ i = .int .i64 (k : Int) ∧ v = .slice A xs.length c ∧ Got n0 A c xs ex ∧ GetSt wr B g h lk fk (ex ++ ext) ∧ Below B w wr ∧ n0 ≤ wr.heap.size ∧ itemsS (m - k) lk fk = (Y, l', f') ∧ (f' = true → R = []) ∧ (f' = false → R = xs ++ Y) ∧ (fk = true → xs = [])) (fun _ i _ => m - (intOf i).toNat)
  case atStart => exact ⟨0, [], none, 0, [], l1, f1, R, rfl, Nat.zero_le _, rfl, rfl, Got.none n0, h1'.out, h2'.out, by have := h2'.out.size; rw [hn0'.out] at this; exact this, hk'.out, fun h => itemsS_nil (h ▸ hk'.out), fun _ => rfl, fun _ => rfl⟩
  case round =>
    obtain ⟨k, xs, A, c, ex, lk, fk, Y, hkx, hkm, rfl, rfl, hgot, hpr, hBr, hnr, hit, hr1, hr2, hr3⟩ := hrel
    have hgot' := hid hgot
    have hBr' := hid hBr
    have hnr' := hid hnr
    have hr1' := hid hr1
    have hr2' := hid hr2
    have hr3' := hid hr3
    have hkx' := hid hkx
    clear hgot hBr hnr hr1 hr2 hr3 hkx
    by_cases hlm : k < m
    · have hlm' : (k : Int) < (m : Int) := by omega
      obtain ⟨y, l2, f2, hr⟩ : ∃ p q r, rinoS lk fk = (p, q, r) := ⟨_, _, _, rfl⟩
      have hcall := hid (hget.out y lk l2 fk f2 ex wr hpr hr)
      rw [show m - k = (m - (k + 1)) + 1 from by omega] at hit
      have hit' := hid hit
      have hrr := hid hr
      clear hpr hit hr
      go_wp2_with fail
      refine hcall.out.mono ?_
      rintro e w2 ⟨rfl, hfy, h3, h4⟩
      have hth := ino_there w2 hfy
      have hsz := ino_size hfy
      have hone := y.one
      have hi1 : (Try.prog.info? 78).map (·.size) = some y.cells.length := by rw [Ino.len hfy]; exact Try.infoIno
      obtain ⟨W1, hW1⟩ : ∃ W1, (w2.alloc (.cells z37 78)).setCells w2.heap.size 0 y.cells = W1 := ⟨_, rfl⟩
      obtain ⟨hv, hb1⟩ := ino_var hfy hW1
      have hp1 := h3.keep hb1
      have hBW := hid (hBr'.out.trans (h4.trans (hb1.mono h3.size)))
      have hnW : n0 ≤ W1.heap.size := Nat.le_trans hnr'.out (Nat.le_trans h4.size hb1.size)
      have hc1 := hp1.failed
      have hp1' := hid hp1
      have hvr := holds_range hv
      have hW1' := hid hW1
      have hfy' := hid hfy
      have hnW' := hid hnW
      clear h3 h4 hv hb1 hp1 hW1 hfy hnW
      cases f2 with
      | true =>
        rw [itemsS_fail hrr.out] at hit'
        obtain ⟨-, e2⟩ := Prod.mk.inj hit'.out
        obtain ⟨rfl, rfl⟩ := Prod.mk.inj e2
        have hR := hid (hr1'.out rfl)
        have hfin : GetSt W1 B g h l2 true ext := hp1'.out.sub fun q hq => List.mem_append_right _ hq
        have hfin' := hid hfin
        clear e2 hfin hit'
        go_wp2_with (first
          | ((with_reducible refine at_slot (some 8) ?_); refine wpList_run rfl (.pointer (some ⟨w2.heap.size, 0, none⟩)) (w2.alloc (.cells z37 78)) (by kernel_rfl) ?_)
          | ((with_reducible refine at_slot none ?_); refine wpList_store_mid rfl 78 (.tmp 8) (.tmp 15) rfl w2.heap.size 0 y.cells.toArray rfl rfl (by exact hth) (by exact hsz) (by exact hone) ?_; rw [hW1'.out])
          | fail)
        go_ret
        rw [hR.out]
        exact ⟨none, 0, [], rfl, Got.none n0, hfin'.out, hBW.out⟩
      | false =>
        obtain ⟨Y2, hy1, hy2, hy3⟩ := itemsS_next hrr.out hit'.out
        have hy1' := hid hy1
        have hy3' := hid hy3
        clear hy1 hy2 hy3 hit' hrr
        obtain ⟨W2, hW2⟩ : ∃ W2, W1.alloc (.cells y.cells.toArray 78) = W2 := ⟨_, rfl⟩
        have hb2 : Below W1.heap.size W1 W2 := by rw [← hW2]; exact (Below.refl _ _).alloc (Nat.le_refl _) _
        have hp2 := hid (hp1'.out.keep hb2)
        have hown := hid (hgot'.out.own hp2.out)
        have hat : At W2 W2.heap.size 37 (some ⟨W1.heap.size, 0, none⟩) 1 y.cells := by
          refine ⟨by rw [Ino.len hfy'.out], .inr ⟨_, rfl, ?_, fun j hj => ?_⟩⟩
          · rw [← hW2]; simp
          · have hh := Holds.new W1 78 y.cells.toArray
            rw [hW2] at hh
            rw [show (⟨W1.heap.size, 0, none⟩ : Addr).add j = ⟨W1.heap.size, j, none⟩ from by unfold Addr.add; split <;> simp_all, hh.cell]
            exact List.getElem?_eq_getElem hj
        have hat' := hid hat
        have hB2 := hid (hBW.out.trans (hb2.mono hp1'.out.size))
        have hn2 := hid (Nat.le_trans hnW'.out hb2.size)
        have hW2' := hid hW2
        have hones : ∀ u ∈ y.cells, u.oneCell' = true := fun u hu => by
          have := Array.all_eq_true_iff_forall_mem.1 hone u (by simpa using hu)
          exact this
        have hones' := hid hones
        clear hb2 hat hW2 hones
        go_wp2_with (first
          | ((with_reducible refine at_slot (some 8) ?_); refine wpList_run rfl (.pointer (some ⟨w2.heap.size, 0, none⟩)) (w2.alloc (.cells z37 78)) (by kernel_rfl) ?_)
          | ((with_reducible refine at_slot none ?_); refine wpList_store_mid rfl 78 (.tmp 8) (.tmp 15) rfl w2.heap.size 0 y.cells.toArray rfl rfl (by exact hth) (by exact hsz) (by exact hone) ?_; rw [hW1'.out])
          | ((with_reducible refine at_slot (some 21) ?_); refine wpList_load_mid rfl 78 (.tmp 8) rfl w2.heap.size 0 rfl y.cells _ (by exact hvr) Try.underlying78 rfl (by exact hi1) ?_)
          | ((with_reducible refine at_slot (some 22) ?_); refine wpList_buildSlice_one rfl 64 78 (.tmp 21) rfl ih _ Try.underlying64 hhi hhz y.cells.toArray rfl (by rw [hhs, List.size_toArray, Ino.len hfy'.out]) (by rw [List.size_toArray, Ino.len hfy'.out]; decide) (by rw [List.size_toArray, Ino.len hfy'.out]; decide) ?_; rw [hW2'.out])
          | (at_builtin; refine wpList_appends rfl (.tmp 20) (.tmp 22) 64 78 rfl n0 ih _ 37 72 Try.underlying64 hhi hhz hhs hhb (by decide) (by decide) A xs.length c (inoCells xs) W2.heap.size (some ⟨W1.heap.size, 0, none⟩) 1 1 y.cells rfl rfl (by intro h; cases h) (by exact hones'.out) (by have := hkx'.out; omega) (by have := hkx'.out; omega) (by exact hown.out) (by exact hat'.out) (by exact hn2.out) ?_; intro A2 c2 w3 hrow hb3 _; have hrow' := hid hrow; have hb3' := hid hb3; clear hrow hb3)
          | fail)
        have hlen : (xs ++ [y]).length = xs.length + 1 := by simp
        have hp3 : GetSt w3 B g h l2 false ext := (hp2.out.sub fun q hq => List.mem_append_right _ hq).keepN hlt.out hb3'.out
        have hfine : ∀ q ∈ xs ++ [y], q.fine := fun q hq => by
          rcases List.mem_append.1 hq with hq | hq
          · exact hgot'.out.1 q hq
          · rw [List.mem_singleton.1 hq]; exact hfy'.out
        have hrow3 := hrow'.out
        rw [← inoCells_snoc, ← hlen] at hrow3
        obtain ⟨ex2, hg2, hpe⟩ := Got.of_own hfine hlt.out hp3 hrow3
        have hrel : Below B w w3 := hB2.out.trans (hb3'.out.mono hBw.out)
        have hn3 : n0 ≤ w3.heap.size := Nat.le_trans hn2.out hb3'.out.size
        go_roundw
        case rel => exact ⟨k + 1, xs ++ [y], A2, c2, ex2, l2, false, Y2, by rw [hlen, hkx'.out], by omega, by go_num, by rw [hlen], hg2, hpe, hrel, hn3, hy1'.out, hr1'.out, fun h => by rw [hr2'.out h, hy3'.out h]; simp, fun h => by cases h⟩
        case measure => simp [intOf]; omega
    · have hlm' : ¬ (k : Int) < (m : Int) := by omega
      have e1 : m - k = 0 := by omega
      rw [e1] at hit
      obtain ⟨rfl, e2⟩ := Prod.mk.inj hit
      obtain ⟨rfl, rfl⟩ := Prod.mk.inj e2
      have hR : R = xs := by
        cases fk with
        | true => rw [hr1'.out rfl, hr3'.out rfl]
        | false => rw [hr2'.out rfl, List.append_nil]
      have hpr' := hid hpr
      have hR' := hid hR
      clear hpr hit e2 hR
      go_wp2_with fail
      go_ret
      rw [hR'.out]
      exact ⟨A, c, ex, rfl, hgot'.out, hpr'.out, hBr'.out⟩

end Go.Proofs.Ytapegklffglnoaa
namespace Go.Proofs.Ytapegklffglnoaa
open Go.RowKit

/-- What Get answers. -/
noncomputable def getS (s : ByteArray) : List Ino × Int :=
  if !(itemsS (rnumS (rmarkS 84 s false).1 (rmarkS 84 s false).2 1).1.toNat (rnumS (rmarkS 84 s false).1 (rmarkS 84 s false).2 1).2.1 (rnumS (rmarkS 84 s false).1 (rmarkS 84 s false).2 1).2.2).2.2
    && decide ((itemsS (rnumS (rmarkS 84 s false).1 (rmarkS 84 s false).2 1).1.toNat (rnumS (rmarkS 84 s false).1 (rmarkS 84 s false).2 1).2.1 (rnumS (rmarkS 84 s false).1 (rmarkS 84 s false).2 1).2.2).2.1.size = 0)
    && itabB (itemsS (rnumS (rmarkS 84 s false).1 (rmarkS 84 s false).2 1).1.toNat (rnumS (rmarkS 84 s false).1 (rmarkS 84 s false).2 1).2.1 (rnumS (rmarkS 84 s false).1 (rmarkS 84 s false).2 1).2.2).1
  then ((itemsS (rnumS (rmarkS 84 s false).1 (rmarkS 84 s false).2 1).1.toNat (rnumS (rmarkS 84 s false).1 (rmarkS 84 s false).2 1).2.1 (rnumS (rmarkS 84 s false).1 (rmarkS 84 s false).2 1).2.2).1, 0)
  else ([], 1400)
theorem getS_eq {s l0 l1 l' : ByteArray} {f0 f1 f' : Bool} {x : Int} {R : List Ino} (h0 : rmarkS 84 s false = (l0, f0)) (h1 : rnumS l0 f0 1 = (x, l1, f1)) (h2 : itemsS x.toNat l1 f1 = (R, l', f')) :
    getS s = if !f' && decide (l'.size = 0) && itabB R then (R, 0) else ([], 1400) := by
  unfold getS
  simp only [h0, h1, h2]

def GetPost (R : List Ino) (x : Int) (w : World) (e : Ending) (w' : World) : Prop :=
  ∃ A c, e = .returned (.tuple #[.slice A R.length c, .int .i64 x]) ∧ w'.ownsRow w.heap.size 78 37 (.slice A R.length c) R.length (inoCells R) ∧ (∀ q ∈ R, q.fine) ∧ Below w.heap.size w w'
theorem GetPost.nil {w w' : World} (hb : Below w.heap.size w w') : GetPost [] 1400 w (.returned (.tuple #[.slice none 0 0, .int .i64 1400])) w' := ⟨none, 0, rfl, World.ownsRow_nil _ _ _ _, fun q hq => (by cases hq), hb⟩

theorem inos_of_own {w : World} {n0 c : Nat} {A : Option Addr} {xs : List Ino} (hf : ∀ x ∈ xs, x.fine) (h : w.ownsRow n0 78 37 (.slice A xs.length c) xs.length (inoCells xs)) : Inos w w.heap.size A xs.length xs := by
  have hat := At.of_own h
  refine ⟨rfl, hf, ?_⟩
  rcases hat.2 with h0 | ⟨p, hA, hB, hc⟩
  · exact .inl h0
  · refine .inr ⟨p, hA, hB, fun i hi j v hv => ?_⟩
    have h1 := inoCells_at hf i hi j v hv
    obtain ⟨hlt, hv2⟩ := List.getElem?_eq_some_iff.1 h1
    have h2 := hc _ hlt
    rw [hv2] at h2
    rw [show (p.add (i * 37)).add j = p.add (i * 37 + j) from add_add _ _ _]
    exact h2

theorem itemsS_length {m : Nat} : ∀ {l l' : ByteArray} {f f' : Bool} {R : List Ino}, itemsS m l f = (R, l', f') → R.length ≤ m := by
  induction m with
  | zero => intro l l' f f' R h; rw [← (Prod.mk.inj h).1]; exact Nat.le_refl _
  | succ m ih =>
    intro l l' f f' R h
    unfold itemsS at h
    split at h
    · rw [← (Prod.mk.inj h).1]; exact Nat.zero_le _
    · split at h
      · rw [← (Prod.mk.inj h).1]; exact Nat.zero_le _
      · rw [← (Prod.mk.inj h).1, List.length_cons]
        have := ih (l := (rinoS l f).2.1) (f := false) rfl
        omega

theorem own_less {w : World} {n n' c k sz : Nat} {A : Option Addr} {t : TypeId} {cs : List Value} (h : w.ownsRow n t sz (.slice A k c) k cs) (hn : n' ≤ n) : w.ownsRow n' t sz (.slice A k c) k cs := by
  obtain ⟨h1, h2 | ⟨g, cap, cur, hv, hb, rest⟩⟩ := h
  · exact ⟨h1, .inl h2⟩
  · exact ⟨h1, .inr ⟨g, cap, cur, hv, Nat.le_trans hn hb, rest⟩⟩

set_option maxRecDepth 100000 in
set_option maxHeartbeats 4000000 in
theorem itabGet_any (s : ByteArray) (R : List Ino) (x : Int) (hs : getS s = (R, x)) (w : World) : Calls Try.prog 41 #[.string s] w (GetPost R x w) := by
  obtain ⟨l0, f0, e0⟩ : ∃ p q, rmarkS 84 s false = (p, q) := ⟨_, _, rfl⟩
  obtain ⟨n, l1, f1, e1⟩ : ∃ p q r, rnumS l0 f0 1 = (p, q, r) := ⟨_, _, _, rfl⟩
  obtain ⟨R2, l2, f2, e2⟩ : ∃ p q r, itemsS n.toNat l1 f1 = (p, q, r) := ⟨_, _, _, rfl⟩
  rw [getS_eq e0 e1 e2] at hs
  have hlen : R2.length ≤ 255 := by
    have h1 := itemsS_length e2
    have h2 := rnumS_small e1
    omega
  obtain ⟨q, hq⟩ : ∃ q, w.heap.size = q := ⟨_, rfl⟩
  have hp0 := GetSt.fresh w s
  have hb0 : Below w.heap.size w (((w.alloc (.cells #[.string s] 158)).alloc (.cells #[.pointer (some ⟨w.heap.size, 0, none⟩), .bool false] 138)).alloc (.cells #[.pointer (some ⟨w.heap.size + 1, 0, none⟩)] 94)) :=
    (((Below.refl w.heap.size w).alloc (Nat.le_refl _) _).alloc (by simp) _).alloc (by simp; omega) _
  have hc0 := (hp0.held (List.mem_cons_self ..)).cell 0
  simp at hc0
  have hM1 := cMarkR_any 84 _ _ _ _ _ _ f0 _ _ hp0 e0
  rw [hq] at hM1 hb0 hc0
  have hM := hid hM1
  have hq' := hid hq
  have hb0' := hid hb0
  have hs' := hid hs
  have e1' := hid e1
  have e2' := hid e2
  clear hp0 hb0 hs e0 e1 e2 hM1
  go_enter Try.func41, Try.ntmps41
  go_wp2_with (go_at_call 60; refine (codecOpen_any _ _).mono ?_; rintro e w' ⟨rfl, rfl⟩)
  refine hM.out.mono ?_
  rintro e w2 ⟨rfl, h2, hb2⟩
  have hc2 := (h2.held (List.mem_cons_self ..)).cell 0
  simp at hc2
  have hI := hid (itemsIno_any R2 n l1 l2 f1 f2 q (q + 1) q (q + 1 + 1) l0 f0 _ w2 h2 e1'.out e2'.out (List.mem_cons_self ..))
  have hbq := hid (hb0'.out.trans hb2)
  have hq2 := hid h2.size
  clear h2 hb2
  go_wp2_with fail
  refine hI.out.mono ?_
  rintro e w3 ⟨A, c, ex, rfl, hgot, h3, hb3⟩
  have hc3 := (h3.held (List.mem_append_right ex (List.mem_cons_self ..))).cell 0
  simp at hc3
  have hD := hid (cDone_any q (q + 1) q l2 f2 _ w3 h3)
  have hb4 := hid (hbq.out.trans hb3)
  have h3' := hid h3
  have hgot' := hid hgot
  clear h3 hb3 hgot
  cases hd : (!f2 && decide (l2.size = 0)) with
  | false =>
    rw [hd] at hD
    have hr : (([] : List Ino), (1400 : Int)) = (R, x) := by rw [← hs'.out, hd]; rfl
    obtain ⟨rfl, rfl⟩ := Prod.mk.inj hr
    clear hr hd
    go_wp2_with fail
    refine hD.out.mono ?_
    rintro e w4 ⟨rfl, rfl⟩
    go_wp2_with fail
    go_ret2
    exact GetPost.nil (by rw [hq'.out]; exact hb4.out)
  | true =>
    rw [hd] at hD
    have hMay := hid (itabMay_any A R2.length c w3.heap.size R2 w3 (hgot'.out.inos h3'.out) (Nat.le_refl _) (by omega))
    have hs2 := hs'.out
    rw [hd, Bool.true_and] at hs2
    cases hi : itabB R2 with
    | false =>
      rw [hi] at hMay hs2
      obtain ⟨rfl, rfl⟩ := Prod.mk.inj hs2
      clear hs2 hi hd
      go_wp2_with fail
      refine hD.out.mono ?_
      rintro e w4 ⟨rfl, rfl⟩
      go_wp2_with fail
      refine hMay.out.mono ?_
      rintro e w5 ⟨rfl, h5⟩
      have hb5 := hid (hb4.out.trans (h5.mono h3'.out.size))
      clear h5
      go_wp2_with fail
      go_ret2
      exact GetPost.nil (by rw [hq'.out]; exact hb5.out)
    | true =>
      rw [hi] at hMay hs2
      obtain ⟨rfl, rfl⟩ := Prod.mk.inj hs2
      clear hs2 hi hd
      go_wp2_with fail
      refine hD.out.mono ?_
      rintro e w4 ⟨rfl, rfl⟩
      go_wp2_with fail
      refine hMay.out.mono ?_
      rintro e w5 ⟨rfl, h5⟩
      have hb5 := hid (hb4.out.trans (h5.mono h3'.out.size))
      have hown := hid (own_less (hgot'.out.own (h3'.out.keep h5)) hq2.out)
      clear h5
      go_wp2_with fail
      go_ret2
      exact ⟨A, c, rfl, by rw [hq'.out]; exact hown.out, hgot'.out.1, by rw [hq'.out]; exact hb5.out⟩

end Go.Proofs.Ytapegklffglnoaa
