/- Layer 13: a directory, a Ref that are handed in. -/
import Derived.Test.YtapegklffglnoaaDirGh
import Derived.Test.YtapegklffglnoaaDirLe
import Derived.Test.YtapegklffglnoaaTexts
namespace Go.Proofs.Ytapegklffglnoaa
open Go.RowKit

theorem list_two {α : Type _} : ∀ {l : List α}, l.length = 2 → ∃ a b, l = [a, b]
  | [a, b], _ => ⟨a, b, rfl⟩
theorem list_three {α : Type _} : ∀ {l : List α}, l.length = 3 → ∃ a b c, l = [a, b, c]
  | [a, b, c], _ => ⟨a, b, c, rfl⟩

section
variable {H : Type} {enc : TypeId × Value → H} {w : World} {base : Nat} {spare : Nat → Bool} {held : Bool}
open Go.ChangeShapes Go.WideShapes Go.Deep

theorem open_ref {fuel : Nat} {cs : List Value} {x : DataW H × List MemPlace} (h : DataW.trod enc Try.prog w base spare held fuel 38 cs = some x) : ∃ a b : Int, cs = [.int .i64 a, .int .i64 b] := by
  have hC : Try.prog.cellsOf 38 = 2 := by kernel_rfl
  have hI : Try.prog.cellsOf 3 = 1 := by kernel_rfl
  obtain ⟨ys, n, _, _, hl, hlen, hf⟩ := DataW.trod_struct Try.underlying38 h
  rw [hC] at hl
  have hlen' : ys.length = 2 := hlen
  have g0 := hf 0 _ rfl
  change DataW.trod enc Try.prog w base spare held n 3 ((cs.drop 0).take (Try.prog.cellsOf 3)) = _ at g0
  rw [hI] at g0
  have g1 := hf 1 _ rfl
  change DataW.trod enc Try.prog w base spare held n 3 ((cs.drop 1).take (Try.prog.cellsOf 3)) = _ at g1
  rw [hI] at g1
  have yy : ∀ i (hi : i < 2), ys[i]? = some (ys[i]'(by omega)) := fun i hi => List.getElem?_eq_getElem (by omega)
  obtain ⟨a0, h0, _, _⟩ := DataW.trod_int Try.underlying3 (g0.trans (yy 0 (by omega)))
  obtain ⟨a1, h1, _, _⟩ := DataW.trod_int Try.underlying3 (g1.trans (yy 1 (by omega)))
  refine ⟨a0, a1, ?_⟩
  obtain ⟨c0, c1, rfl⟩ : ∃ c0 c1, cs = [c0, c1] := list_two hl
  simp at h0 h1
  rw [h0, h1]

theorem open_ent {fuel : Nat} {cs : List Value} {x : DataW H × List MemPlace} (h : DataW.trod enc Try.prog w base spare held fuel 60 cs = some x) (hw : ∀ k ∈ x.1.weights Try.prog 60, k ≤ reachBytes) : ∃ a : Ent, a.fine ∧ a.cells = cs := by
  have hC : Try.prog.cellsOf 60 = 3 := by kernel_rfl
  have hI : Try.prog.cellsOf 9 = 1 := by kernel_rfl
  have hR : Try.prog.cellsOf 38 = 2 := by kernel_rfl
  obtain ⟨ys, n, _, hx, hl, hlen, hf⟩ := DataW.trod_struct Try.underlying60 h
  rw [hC] at hl
  have hlen' : ys.length = 2 := hlen
  have g0 := hf 0 _ rfl
  change DataW.trod enc Try.prog w base spare held n 9 ((cs.drop 0).take (Try.prog.cellsOf 9)) = _ at g0
  rw [hI] at g0
  have g1 := hf 1 _ rfl
  change DataW.trod enc Try.prog w base spare held n 38 ((cs.drop 1).take (Try.prog.cellsOf 38)) = _ at g1
  rw [hR] at g1
  obtain ⟨y0, y1, rfl⟩ : ∃ y0 y1, ys = [y0, y1] := list_two hlen'
  · obtain ⟨s, h0, hd, _⟩ := DataW.trod_string Try.underlying9 g0
    obtain ⟨a, b, h1⟩ := open_ref g1
    refine ⟨⟨s, a, b⟩, ?_, ?_⟩
    · have hk := hw s.data.toList.length (by
        rw [hx]
        simp only [DataW.weights, Try.underlying60, List.map_cons]
        have hD : y0.1 = .lit (.string s.data.toList) := (Prod.mk.inj hd).1
        rw [hD]
        refine List.mem_append_left _ ?_
        simp [DataW.weights])
      rw [data_length] at hk
      unfold reachBytes at hk
      unfold Ent.fine
      simp only
      omega
    · obtain ⟨c0, c1, c2, rfl⟩ : ∃ c0 c1 c2, cs = [c0, c1, c2] := list_three hl
      simp at h0 h1
      simp [Ent.cells, h0, h1]

theorem open_ents {fuel : Nat} {x : DataW H × List MemPlace} {A : Option Addr} {len cap : Nat} (h : DataW.trod enc Try.prog w base spare held fuel 36 [.slice A len cap] = some x) (hlt : ∀ y ∈ x.2, y.block < w.heap.size)
    (hw : ∀ k ∈ x.1.weights Try.prog 36, k ≤ reachBytes) : ∃ xs, EntsIn w A len cap xs := by
  have hC : Try.prog.cellsOf 60 = 3 := by kernel_rfl
  rcases open_slice Try.underlying36 h with ⟨hcs, _⟩ | ⟨a, l, c, m, n, D, Pl, hcs, hb, hl, hm, hmm, hx, hi⟩
  · simp at hcs
    obtain ⟨rfl, rfl, rfl⟩ := hcs
    exact ⟨[], ⟨rfl, (fun a ha => by cases ha), .inl rfl⟩, Nat.le_refl _, Nat.zero_le _, fun _ => rfl⟩
  · simp at hcs
    obtain ⟨rfl, rfl, rfl⟩ := hcs
    have hlm : len ≤ m := by
      rw [hmm]
      split
      · exact hl
      · exact Nat.le_refl _
    have hex : ∀ i, i < len → ∃ b : Ent, b.fine ∧ ∀ j v, b.cells[j]? = some v → w.cell? ((a.add (i * 3)).add j) = some v := by
      intro i hil
      obtain ⟨cs', hc, ht⟩ := hi i (by omega)
      rw [hC] at hc
      obtain ⟨_, hcl, hat⟩ := World.cells?_some hc
      obtain ⟨b, hbf, hbc⟩ := open_ent ht (fun k hk => hw k (by
        rw [hx]
        simp only [DataW.weights, Try.underlying36]
        exact List.mem_cons_of_mem _ (List.mem_append_left _ (weights_all (d := D i) (List.mem_map.2 ⟨i, List.mem_range.2 hil, rfl⟩) _ hk))))
      refine ⟨b, hbf, fun j v hv => ?_⟩
      rw [hbc] at hv
      have hj : j < 3 := by
        have := (List.getElem?_eq_some_iff.1 hv).1
        omega
      rw [hat j hj, hv]
    let g : Nat → Ent := fun i => if hil : i < len then Classical.choose (hex i hil) else noEnt
    have hg : ∀ i (hil : i < len), (g i).fine ∧ ∀ j v, (g i).cells[j]? = some v → w.cell? ((a.add (i * 3)).add j) = some v := by
      intro i hil
      have : g i = Classical.choose (hex i hil) := by simp [g, hil]
      rw [this]
      exact Classical.choose_spec (hex i hil)
    have hm32 : len * 32 ≤ 140737488351232 := by
      have hby : Try.prog.bytesOf 60 = 32 := by kernel_rfl
      have hk := hw ((len + (m - len)) * 32) (by
        rw [hx]
        simp only [DataW.weights, Try.underlying36]
        refine List.mem_cons.2 (.inl ?_)
        simp [hby])
      unfold reachBytes at hk
      omega
    refine ⟨(List.range len).map g, ⟨by simp, ?_, ?_⟩, hl, hm32, fun h => by cases h⟩
    · intro b hb
      obtain ⟨i, hi, rfl⟩ := List.mem_map.1 hb
      exact (hg i (List.mem_range.1 hi)).1
    · rcases Nat.eq_zero_or_pos len with h0 | h0
      · exact .inl h0
      · refine .inr ⟨a, rfl, ?_, ?_⟩
        · have := hlt (.cell a.block a.off) (by
            rw [hx, hC]
            exact List.mem_append_left _ (row_head a (m * 3) (by omega)))
          exact this
        · intro i hi j v hv
          have hil : i < len := by simpa using hi
          simp only [List.getElem_map, List.getElem_range] at hv
          exact (hg i hil).2 j v hv
end

end Go.Proofs.Ytapegklffglnoaa
