/- Lists of hashes that are handed in.
   Loads of whole arrays and structs, wherever their cells begin. No function of the program is named here. -/
import Derived.Test.YtenfhmpjhbpkpaaHashR
import Derived.Test.YtenfhmpjhbpkpaaLendT
import Derived.Test.YtenfhmpjhbpkpaaMl
import Derived.ChangeArms
import Derived.OpenShut
import Derived.DataReads
import Derived.Deep.Slices
import Derived.ProofKit
import Derived.ChangeOld
import Derived.Deep.MidRow
import Derived.Deep.RegionHeld3
namespace Go.Proofs.Ytenfhmpjhbpkpaa
open Go.RowKit
open Go.Lib (strCells strCells_length strCells_oneCell)
attribute [local irreducible] Sha.compress Sha.blocks Sha.sha Sha.pad

/-- The slice at A reads as these hashes. -/
def Hashs (w : World) (B : Nat) (A : Option Addr) (n : Nat) (xs : List (List UInt8)) : Prop := At w B 32 A n (hashCells xs) ∧ ∀ x ∈ xs, x.length = 32

section
variable {w w' : World} {B B' n : Nat} {A : Option Addr} {xs ys : List (List UInt8)}
theorem Hashs.len (h : Hashs w B A n xs) : xs.length = n := by
  have h1 := h.1.len
  rw [hashCells_length xs h.2] at h1
  omega
theorem Hashs.below (h : Hashs w B A n xs) (hb : Below B w w') : Hashs w' B A n xs := ⟨At.below h.1 hb, h.2⟩
theorem Hashs.more (h : Hashs w B A n xs) (hB : B ≤ B') : Hashs w B' A n xs := ⟨At.more h.1 hB, h.2⟩
theorem Hashs.drewN (h : Hashs w B A n xs) (k : Nat) : Hashs (w.drewN k) B A n xs := h
theorem Hashs.drew (h : Hashs w B A n xs) : Hashs w.drew B A n xs := h
theorem Hashs.alloc (h : Hashs w B A n xs) (hB : B ≤ w.heap.size) (o : Obj) : Hashs (w.alloc o) B A n xs := ⟨At.alloc h.1 hB o, h.2⟩

theorem hashCells_each (xs : List (List UInt8)) : ∀ u ∈ hashCells xs, u.oneCell' = true := by
  intro u hu
  obtain ⟨x, _, hx⟩ := List.mem_flatMap.1 hu
  exact byteCells_one x u hx

/-- A hash's cells, wherever it lies. -/
def CellsAt (w : World) (p : Addr) (cs : List Value) : Prop := ∀ j v, cs[j]? = some v → w.cell? (p.add j) = some v

theorem CellsAt.below {p : Addr} {cs : List Value} (h : CellsAt w p cs) (hb : Below B w w') (hp : p.block < B) : CellsAt w' p cs :=
  fun j v hv => (hb.cell (p := p.add j) (by rw [add_block]; exact hp)).trans (h j v hv)

theorem Hashs.get (h : Hashs w B A n xs) {k : Nat} (hk : k < n) : ∃ p x, A = some p ∧ p.block < B ∧ x ∈ xs ∧ xs[k]? = some x ∧ x.length = 32 ∧ CellsAt w (p.add (k * 32)) (byteCells x) := by
  have hl := h.len
  have hx : xs[k]? = some (xs[k]'(by omega)) := List.getElem?_eq_getElem (by omega)
  rcases h.1.2 with h0 | ⟨p, hA, hB, hc⟩
  · omega
  · refine ⟨p, _, hA, hB, List.getElem_mem .., hx, h.2 _ (List.getElem_mem ..), fun j v hv => ?_⟩
    have hj : j < 32 := by
      have h1 := (List.getElem?_eq_some_iff.1 hv).1
      rw [byteCells, List.length_map, h.2 _ (List.getElem_mem ..)] at h1
      exact h1
    have e := hashCells_at xs h.2 k _ hx j hj
    rw [hv] at e
    have e1 : k * 32 + j = 32 * k + j := by omega
    obtain ⟨hlt, he⟩ := List.getElem?_eq_some_iff.1 e
    have h2 := hc (32 * k + j) hlt
    rw [he] at h2
    rw [add_add, e1]
    exact h2

theorem Hashs.front {m : Nat} (h : Hashs w B A (n + m) (xs ++ ys)) (hl : xs.length = n) : Hashs w B A n xs := by
  have hx : ∀ x ∈ xs, x.length = 32 := fun x hx => h.2 x (List.mem_append_left _ hx)
  have hlen := hashCells_length xs hx
  refine ⟨⟨by omega, ?_⟩, hx⟩
  rcases h.1.2 with h0 | ⟨p, hA, hB, hc⟩
  · exact .inl (by omega)
  · refine .inr ⟨p, hA, hB, fun i hi => ?_⟩
    have h1 : i < (hashCells (xs ++ ys)).length := by rw [hashCells_append, List.length_append]; omega
    have h2 := hc i h1
    simp only [hashCells_append, List.getElem_append_left hi] at h2
    exact h2
end

theorem add_zero' (p : Addr) : p.add 0 = p := by
  unfold Addr.add
  simp

/-- A part's beginning. -/
theorem Hashs.take {w : World} {B n : Nat} {A : Option Addr} {xs : List (List UInt8)} (h : Hashs w B A n xs) {k : Nat} (hk : k ≤ n) : Hashs w B A k (xs.take k) := by
  have hl := h.len
  have e : xs = xs.take k ++ xs.drop k := (List.take_append_drop k xs).symm
  have e2 : n = k + (n - k) := by omega
  rw [e, e2] at h
  exact h.front (by rw [List.length_take]; omega)

/-- The list at A, as it comes in. -/
def HashsIn (w : World) (A : Option Addr) (n c : Nat) (xs : List (List UInt8)) : Prop := Hashs w w.heap.size A n xs ∧ n ≤ c ∧ n * 32 ≤ 140737488351232 ∧ (A = none → c = 0)

section
variable {H : Type} {enc : TypeId × Value → H} {w : World} {base : Nat} {spare : Nat → Bool} {held : Bool}
open Go.ChangeShapes Go.WideShapes Go.Deep

theorem open_hash {fuel : Nat} {cs : List Value} {x : DataW H × List MemPlace} (h : DataW.trod enc Try.prog w base spare held fuel 28 cs = some x) : ∃ s : List UInt8, cs = byteCells s ∧ s.length = 32 := by
  have hH : Try.prog.cellsOf 28 = 32 := by kernel_rfl
  have h1 : Try.prog.cellsOf 5 = 1 := by kernel_rfl
  obtain ⟨xs, m, _, _, hl, hlen, hi⟩ := DataW.trod_array Try.underlying28 h
  rw [hH] at hl
  have hall : ∀ i, i < 32 → ∃ b : UInt8, cs[i]? = some (.int .u8 (b.toNat : Int)) := by
    intro i hin
    have h2 := hi i hin
    rw [h1, Nat.mul_one] at h2
    have hx : xs[i]? = some (xs[i]'(by omega)) := List.getElem?_eq_getElem (by omega)
    obtain ⟨z, hz, _, hw⟩ := DataW.trod_int Try.underlying5 (h2.trans hx)
    have hd : (cs.drop i).take 1 = [cs[i]'(by omega)] := by
      rw [List.drop_eq_getElem_cons (by omega)]
      rfl
    rw [hd] at hz
    injection hz with hz
    have hr : 0 ≤ z ∧ z < 256 := by
      simp [Lit.wf] at hw
      have e0 : IntKind.u8.min = 0 := rfl
      have e1 : IntKind.u8.max = 255 := rfl
      omega
    have hb : ((UInt8.ofNat z.toNat).toNat : Int) = z := by
      have : (UInt8.ofNat z.toNat).toNat = z.toNat := by simp; omega
      omega
    exact ⟨UInt8.ofNat z.toNat, by rw [List.getElem?_eq_getElem (by omega), hz, hb]⟩
  let f : Nat → UInt8 := fun i => match cs[i]? with | some (.int .u8 z) => UInt8.ofNat z.toNat | _ => 0
  refine ⟨(List.range 32).map f, ?_, by simp⟩
  apply List.ext_getElem?
  intro i
  unfold byteCells
  rw [List.map_map, List.getElem?_map]
  by_cases hin : i < 32
  · obtain ⟨b, hb⟩ := hall i hin
    have hfi : f i = b := by
      show (match cs[i]? with | some (.int .u8 z) => UInt8.ofNat z.toNat | _ => 0) = b
      rw [hb]
      show UInt8.ofNat ((b.toNat : Int).toNat) = b
      rw [Int.toNat_natCast]
      simp
    rw [hb, List.getElem?_range hin, Option.map_some]
    show _ = some (Value.int .u8 ((f i).toNat : Int))
    rw [hfi]
  · rw [List.getElem?_eq_none (by omega), List.getElem?_eq_none (by simp; omega)]
    rfl

theorem open_hashs {fuel : Nat} {x : DataW H × List MemPlace} {A : Option Addr} {len cap : Nat} (h : DataW.trod enc Try.prog w base spare held fuel 41 [.slice A len cap] = some x) (hlt : ∀ y ∈ x.2, y.block < w.heap.size)
    (hw : ∀ k ∈ x.1.weights Try.prog 41, k ≤ reachBytes) : ∃ xs, HashsIn w A len cap xs := by
  have hC : Try.prog.cellsOf 28 = 32 := by kernel_rfl
  rcases open_slice Try.underlying41 h with ⟨hcs, _⟩ | ⟨a, l, c, m, n, D, Pl, hcs, hb, hl, hm, hmm, hx, hi⟩
  · simp at hcs
    obtain ⟨rfl, rfl, rfl⟩ := hcs
    exact ⟨[], ⟨⟨rfl, .inl rfl⟩, fun x hx => by cases hx⟩, Nat.le_refl _, Nat.zero_le _, fun _ => rfl⟩
  · simp at hcs
    obtain ⟨rfl, rfl, rfl⟩ := hcs
    have hlm : len ≤ m := by
      rw [hmm]
      split
      · exact hl
      · exact Nat.le_refl _
    have hex : ∀ i, i < len → ∃ b : List UInt8, b.length = 32 ∧ ∀ j v, (byteCells b)[j]? = some v → w.cell? ((a.add (i * 32)).add j) = some v := by
      intro i hil
      obtain ⟨cs', hc, ht⟩ := hi i (by omega)
      rw [hC] at hc
      obtain ⟨_, hcl, hat⟩ := World.cells?_some hc
      obtain ⟨b, hbc, hbf⟩ := open_hash ht
      refine ⟨b, hbf, fun j v hv => ?_⟩
      have hj : j < 32 := by
        have := (List.getElem?_eq_some_iff.1 hv).1
        rw [byteCells, List.length_map] at this
        omega
      rw [hat j hj, hbc, hv]
    let g : Nat → List UInt8 := fun i => if hil : i < len then Classical.choose (hex i hil) else []
    have hg : ∀ i (hil : i < len), (g i).length = 32 ∧ ∀ j v, (byteCells (g i))[j]? = some v → w.cell? ((a.add (i * 32)).add j) = some v := by
      intro i hil
      have : g i = Classical.choose (hex i hil) := by simp [g, hil]
      rw [this]
      exact Classical.choose_spec (hex i hil)
    have hm32 : len * 32 ≤ 140737488351232 := by
      have hby : Try.prog.bytesOf 28 = 32 := by kernel_rfl
      have hk := hw ((len + (m - len)) * 32) (by
        rw [hx]
        simp only [DataW.weights, Try.underlying41]
        refine List.mem_cons.2 (.inl ?_)
        simp [hby])
      unfold reachBytes at hk
      omega
    have h32 : ∀ x ∈ (List.range len).map g, x.length = 32 := by
      intro b hb
      obtain ⟨i, hi, rfl⟩ := List.mem_map.1 hb
      exact (hg i (List.mem_range.1 hi)).1
    refine ⟨(List.range len).map g, ⟨⟨by rw [hashCells_length _ h32]; simp; omega, ?_⟩, h32⟩, hl, hm32, fun h => by cases h⟩
    rcases Nat.eq_zero_or_pos len with h0 | h0
    · exact .inl h0
    · refine .inr ⟨a, rfl, ?_, ?_⟩
      · have := hlt (.cell a.block a.off) (by
          rw [hx, hC]
          exact List.mem_append_left _ (row_head a (m * 32) (by omega)))
        exact this
      · intro i hi
        have hi' := hi
        rw [hashCells_length _ h32, List.length_map, List.length_range] at hi'
        have hk : i / 32 < len := by omega
        have hx' : ((List.range len).map g)[i / 32]? = some (g (i / 32)) := by simp [hk]
        have e := hashCells_at _ h32 (i / 32) _ hx' (i % 32) (by omega)
        have e2 : 32 * (i / 32) + i % 32 = i := by omega
        rw [e2] at e
        have h3 := (hg (i / 32) hk).2 (i % 32) _ (e.symm.trans (List.getElem?_eq_getElem hi))
        rw [add_add] at h3
        have e3 : i / 32 * 32 + i % 32 = i := by omega
        rw [e3] at h3
        exact h3
end

end Go.Proofs.Ytenfhmpjhbpkpaa
namespace Go.Proofs.Ytenfhmpjhbpkpaa
open Go.RowKit
section
variable {P : Program} {ops : Array Oper} {o : Oper} {a : Act} {w : World} {Q : Exit → Act → World → Prop}
theorem run_load_far (p : Addr) (ty : TypeId) (cs : List Value) (d : TypeDesc) (hc : CellsAt w p cs) (hu : P.underlying ty = some d) (hd : d.isRow = true) (hi : (P.info? ty).map (·.size) = some cs.length) : (loadVar ty p).run P w = .ok (.agg cs.toArray) w := by
  have hl : (loadCells p cs.length).run P w = .ok cs.toArray w := run_loadCells_list (P := P) w p cs hc
  cases hq : P.info? ty with
  | none => simp [hq] at hi
  | some i =>
    have hs : i.size = cs.length := by simpa [hq] using hi
    have hagg : (isAgg ty).run P w = .ok true w := by
      unfold isAgg
      rw [Sem.run_bind, run_underlying hu w]
      cases d <;> simp_all
    simp [loadVar, Sem.run_bind, hagg, sizeOf, typeInfo, hq, hs, hl]

theorem wpList_load_far {rest : List Oper} (hgd : o.guard = none) (ty : TypeId) (x : Operand) (ho : o.op = .load ty x) (p : Addr) (hx : a.eval x = .pointer (some p)) (cs : List Value) (d : TypeDesc) (hc : CellsAt w p cs)
    (hu : P.underlying ty = some d) (hd : d.isRow = true) (hi : (P.info? ty).map (·.size) = some cs.length) (h : wpList P ops Q rest (a.put o.dst (.agg cs.toArray)) w) : wpList P ops Q (o :: rest) a w :=
  wpList_run hgd _ _ (by
    unfold execOp
    simp only [ho, hx, Instr.loadAt, Instr.sureAddr, Sem.run_bind, Sem.run_pure, Result.andThen_ok, run_load_far p ty cs d hc hu hd hi]) h

theorem yieldsIf_load_far {S : World → Prop} (hw : Region.wanted o (yielded ops a.tmps) = true) (ty : TypeId) (x : Operand) (ho : o.op = .load ty x)
    (p : Addr) (hx : a.eval x = .pointer (some p)) (cs : List Value) (d : TypeDesc) (hS : ∀ w, S w → CellsAt w p cs)
    (hu : P.underlying ty = some d) (hd : d.isRow = true) (hi : (P.info? ty).map (·.size) = some cs.length) : YieldsIf P ops S o (.agg cs.toArray) a :=
  .inl ⟨hw, fun w hw' => by
    unfold execOp
    simp only [ho, hx, Instr.loadAt, Instr.sureAddr, Sem.run_bind, Sem.run_pure, Result.andThen_ok, run_load_far p ty cs d (hS w hw') hu hd hi]⟩
end

theorem cellsAt_of {w : World} {g : Nat} {t : TypeId} {cs : List Value} (h : Holds w g t cs) : CellsAt w ⟨g, 0, none⟩ cs := by
  intro j v hv
  have e0 : (⟨g, 0, none⟩ : Addr).add j = ⟨g, j, none⟩ := by
    unfold Addr.add
    by_cases h0 : j = 0 <;> simp [h0]
  rw [e0, h.cell j, hv]

end Go.Proofs.Ytenfhmpjhbpkpaa
