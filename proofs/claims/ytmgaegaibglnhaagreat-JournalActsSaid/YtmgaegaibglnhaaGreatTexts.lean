/- Texts that a statement is handed: a []string. -/
import Derived.Test.YtmgaegaibglnhaaGreatRows
import Derived.Test.YtmgaegaibglnhaaGreatBytes
import Derived.ChangeArms
import Derived.OpenShut
import Derived.DataReads
import Derived.Deep.Slices
import Derived.ProofKit
import Derived.ChangeOld
import Derived.SizedLaws
namespace Go.Proofs.YtmgaegaibglnhaaGreat
open Go.RowKit

/-- The cells of a list of texts. -/
def strs (xs : List ByteArray) : List Value := xs.map Value.string

theorem strs_length (xs : List ByteArray) : (strs xs).length = xs.length := by simp [strs]
theorem strs_append (xs ys : List ByteArray) : strs (xs ++ ys) = strs xs ++ strs ys := by simp [strs]
theorem strs_one (xs : List ByteArray) : ∀ u ∈ strs xs, u.oneCell' = true := by
  intro u hu
  unfold strs at hu
  obtain ⟨x, _, rfl⟩ := List.mem_map.1 hu
  rfl

/-- The slice at A reads as these texts. -/
def Texts (w : World) (B : Nat) (A : Option Addr) (n : Nat) (xs : List ByteArray) : Prop := At w B 1 A n (strs xs)

section
variable {w w' : World} {B B' n : Nat} {A : Option Addr} {xs : List ByteArray}

theorem Texts.len (h : Texts w B A n xs) : xs.length = n := by
  have h' := At.len h
  rw [strs_length] at h'
  omega

theorem Texts.below (h : Texts w B A n xs) (hb : Below B w w') : Texts w' B A n xs := At.below h hb
theorem Texts.more (h : Texts w B A n xs) (hB : B ≤ B') : Texts w B' A n xs := At.more h hB
theorem Texts.drewN (h : Texts w B A n xs) (k : Nat) : Texts (w.drewN k) B A n xs := h
theorem Texts.drew (h : Texts w B A n xs) : Texts w.drew B A n xs := h
theorem Texts.alloc (h : Texts w B A n xs) (hB : B ≤ w.heap.size) (o : Obj) : Texts (w.alloc o) B A n xs := At.alloc h hB o

theorem Texts.get (h : Texts w B A n xs) {k : Nat} (hk : k < n) : ∃ p, A = some p ∧ p.block < B ∧ ∃ x, x ∈ xs ∧ xs[k]? = some x ∧ w.cell? (p.add k) = some (.string x) := by
  obtain ⟨p, v, hA, hB, hv, hc⟩ := At.get h hk
  have hl := h.len
  have hk' : k < xs.length := by omega
  refine ⟨p, hA, hB, xs[k], List.getElem_mem _, List.getElem?_eq_getElem hk', ?_⟩
  rw [hc, ← hv]
  simp [strs, List.getElem?_eq_getElem hk']

theorem Texts.front {ys : List ByteArray} {m : Nat} (h : Texts w B A (n + m) (xs ++ ys)) (hl : xs.length = n) : Texts w B A n xs := by
  subst hl
  obtain ⟨hlen, h0 | ⟨p, hp, hB, hc⟩⟩ := h
  · have e : xs = [] := List.eq_nil_of_length_eq_zero (by omega)
    subst e
    exact ⟨rfl, .inl rfl⟩
  · refine ⟨by rw [strs_length, Nat.mul_one], .inr ⟨p, hp, hB, fun j hj => ?_⟩⟩
    have hj2 : j < (strs (xs ++ ys)).length := by
      rw [strs_length] at hj ⊢
      simp
      omega
    rw [hc j hj2]
    simp [strs_append, List.getElem_append_left hj]
end

/-- Texts that came in: none is longer than a text may be, nor are they more than lie in memory. -/
def TextsIn (w : World) (A : Option Addr) (n c : Nat) (xs : List ByteArray) : Prop := Texts w w.heap.size A n xs ∧ n ≤ c ∧ n * 16 ≤ 140737488351232 ∧ (A = none → c = 0) ∧ ∀ s ∈ xs, s.size ≤ 140737488351232

section
variable {H : Type} {enc : TypeId × Value → H} {w : World} {base : Nat} {spare : Nat → Bool} {held : Bool}
open Go.ChangeShapes Go.WideShapes Go.Deep

theorem weights_all {P : Program} {e : TypeId} : ∀ {ds : List (DataW H)} {d : DataW H}, d ∈ ds → ∀ n ∈ d.weights P e, n ∈ DataW.weightsAll P e ds
  | d0 :: ds, d, hd, n, hn => by
    simp only [DataW.weightsAll, List.mem_append]
    rcases List.mem_cons.1 hd with rfl | hd
    · exact .inl hn
    · exact .inr (weights_all hd n hn)

theorem open_texts {fuel : Nat} {x : DataW H × List MemPlace} {A : Option Addr} {len cap : Nat} (h : DataW.trod enc Tryz.prog w base spare held fuel 90 [.slice A len cap] = some x) (hlt : ∀ y ∈ x.2, y.block < w.heap.size)
    (hw : ∀ k ∈ x.1.weights Tryz.prog 90, k ≤ reachBytes) : ∃ xs, TextsIn w A len cap xs := by
  have hC : Tryz.prog.cellsOf 9 = 1 := by kernel_rfl
  rcases open_slice1 Tryz.underlying90 hC h with ⟨hcs, _⟩ | ⟨a, l, c, m, n, V, D, Pl, hcs, hb, hl, hm, hmm, hx, hi⟩
  · simp at hcs
    obtain ⟨rfl, rfl, rfl⟩ := hcs
    exact ⟨[], ⟨rfl, .inl rfl⟩, Nat.le_refl _, Nat.zero_le _, (fun _ => rfl), (fun s hs => by cases hs)⟩
  · simp at hcs
    obtain ⟨rfl, rfl, rfl⟩ := hcs
    have hlm : len ≤ m := by
      rw [hmm]
      split
      · exact hl
      · exact Nat.le_refl _
    have hex : ∀ i, i < len → ∃ s : ByteArray, s.size ≤ 140737488351232 ∧ w.cell? (a.add i) = some (.string s) := by
      intro i hil
      obtain ⟨hc, ht⟩ := hi i (by omega)
      obtain ⟨s, hs, hd, _⟩ := DataW.trod_string Tryz.underlying9 ht
      refine ⟨s, ?_, by rw [hc]; exact congrArg some (by simpa using hs)⟩
      have hk := hw s.data.toList.length (by
        rw [hx]
        simp only [DataW.weights, Tryz.underlying90]
        refine List.mem_cons_of_mem _ (List.mem_append_left _ (weights_all (d := D i) (List.mem_map.2 ⟨i, List.mem_range.2 hil, rfl⟩) _ ?_))
        have hD : D i = .lit (.string s.data.toList) := (Prod.mk.inj hd).1
        rw [hD]
        simp [DataW.weights])
      rw [data_length] at hk
      unfold reachBytes at hk
      omega
    let g : Nat → ByteArray := fun i => if hil : i < len then Classical.choose (hex i hil) else ByteArray.empty
    have hg : ∀ i (hil : i < len), (g i).size ≤ 140737488351232 ∧ w.cell? (a.add i) = some (.string (g i)) := by
      intro i hil
      have : g i = Classical.choose (hex i hil) := by simp [g, hil]
      rw [this]
      exact Classical.choose_spec (hex i hil)
    have hm16 : len * 16 ≤ 140737488351232 := by
      have hby : Tryz.prog.bytesOf 9 = 16 := by kernel_rfl
      have hk := hw ((len + (m - len)) * 16) (by
        rw [hx]
        simp only [DataW.weights, Tryz.underlying90]
        refine List.mem_cons.2 (.inl ?_)
        simp [hby])
      unfold reachBytes at hk
      omega
    refine ⟨(List.range len).map g, ⟨by simp [strs], ?_⟩, hl, hm16, (fun h => by cases h), ?_⟩
    · rcases Nat.eq_zero_or_pos len with h0 | h0
      · exact .inl h0
      · refine .inr ⟨a, rfl, ?_, ?_⟩
        · have := hlt (.cell a.block a.off) (by
            rw [hx]
            exact List.mem_append_left _ (row_head a m (by omega)))
          exact this
        · intro i hi
          have hil : i < len := by simpa [strs] using hi
          simp only [strs, List.getElem_map, List.getElem_range]
          exact (hg i hil).2
    · intro b hb
      obtain ⟨i, hi, rfl⟩ := List.mem_map.1 hb
      exact (hg i (List.mem_range.1 hi)).1
end

end Go.Proofs.YtmgaegaibglnhaaGreat
