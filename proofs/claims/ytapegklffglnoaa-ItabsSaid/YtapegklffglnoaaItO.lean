/- Layer 14: a table that is handed in. -/
import Derived.Test.YtapegklffglnoaaItS
import Derived.ChangeArms
import Derived.OpenShut
import Derived.DataReads
import Derived.Deep.Slices
import Derived.ProofKit
import Derived.ChangeOld
namespace Go.Proofs.Ytapegklffglnoaa
open Go.RowKit
open Go.Lib (strCells strCells_length strCells_oneCell)

/-- The table at A, as it comes in. -/
def InosIn (w : World) (A : Option Addr) (n c : Nat) (xs : List Ino) : Prop := Inos w w.heap.size A n xs ∧ n ≤ c ∧ n * 72 ≤ 140737488351232 ∧ (A = none → c = 0)

section
variable {H : Type} {enc : TypeId × Value → H} {w : World} {base : Nat} {spare : Nat → Bool} {held : Bool}
open Go.ChangeShapes Go.WideShapes Go.Deep

theorem open_bytes {e : TypeId} {fuel n : Nat} {t : TypeId} {cs : List Value} {x : DataW H × List MemPlace} (ht : Try.prog.underlying t = some (.array n e)) (he : Try.prog.underlying e = some (.int .u8)) (h1 : Try.prog.cellsOf e = 1) (hn : Try.prog.cellsOf t = n)
    (h : DataW.trod enc Try.prog w base spare held fuel t cs = some x) : ∃ s : ByteArray, cs = strCells s ∧ s.size = n := by
  obtain ⟨xs, m, _, _, hl, hlen, hi⟩ := DataW.trod_array ht h
  rw [hn] at hl
  have hall : ∀ i, i < n → ∃ b : UInt8, cs[i]? = some (.int .u8 (b.toNat : Int)) := by
    intro i hin
    have h2 := hi i hin
    rw [h1, Nat.mul_one] at h2
    have hx : xs[i]? = some (xs[i]'(by omega)) := List.getElem?_eq_getElem (by omega)
    obtain ⟨z, hz, _, hw⟩ := DataW.trod_int he (h2.trans hx)
    have hd : (cs.drop i).take 1 = [cs[i]'(by omega)] := by
      rw [List.drop_eq_getElem_cons (by omega)]
      rfl
    rw [hd] at hz
    injection hz with hz
    have hr : 0 ≤ z ∧ z < 256 := by
      simp [Lit.wf] at hw
      have e0 : IntKind.u8.min = 0 := rfl
      have e1 : IntKind.u8.max = 255 := rfl
      omega
    have hb : ((UInt8.ofNat z.toNat).toNat : Int) = z := by
      have : (UInt8.ofNat z.toNat).toNat = z.toNat := by simp; omega
      omega
    exact ⟨UInt8.ofNat z.toNat, by rw [List.getElem?_eq_getElem (by omega), hz, hb]⟩
  let f : Nat → UInt8 := fun i => match cs[i]? with | some (.int .u8 z) => UInt8.ofNat z.toNat | _ => 0
  refine ⟨⟨((List.range n).map f).toArray⟩, ?_, by rw [← data_length]; simp⟩
  apply List.ext_getElem?
  intro i
  unfold strCells
  rw [mk_data, List.map_map, List.getElem?_map]
  by_cases hin : i < n
  · obtain ⟨b, hb⟩ := hall i hin
    have hfi : f i = b := by
      show (match cs[i]? with | some (.int .u8 z) => UInt8.ofNat z.toNat | _ => 0) = b
      rw [hb]
      show UInt8.ofNat ((b.toNat : Int).toNat) = b
      rw [Int.toNat_natCast]
      simp
    rw [hb, List.getElem?_range hin, Option.map_some]
    show _ = some (Value.int .u8 ((f i).toNat : Int))
    rw [hfi]
  · rw [List.getElem?_eq_none (by omega), List.getElem?_eq_none (by simp; omega)]
    rfl

theorem ino_cells {cs r : List Value} {v0 v1 v2 v3 v4 : Value} (hl : cs.length = 37) (h0 : (cs.drop 0).take 1 = [v0]) (h1 : (cs.drop 1).take 1 = [v1]) (h2 : (cs.drop 2).take 1 = [v2]) (h3 : (cs.drop 3).take 1 = [v3]) (h4 : (cs.drop 4).take 1 = [v4]) (h5 : (cs.drop 5).take 32 = r) :
    [v0, v1, v2, v3, v4] ++ r = cs := by
  match cs, hl with
  | c0 :: c1 :: c2 :: c3 :: c4 :: rest, hl =>
    have h32 : rest.length = 32 := by simpa using hl
    simp at h0 h1 h2 h3 h4
    have e4 : List.take 32 rest = r := h5
    rw [List.take_of_length_le (by omega)] at e4
    simp [h0, h1, h2, h3, h4, e4]

theorem open_ino {fuel : Nat} {cs : List Value} {x : DataW H × List MemPlace} (h : DataW.trod enc Try.prog w base spare held fuel 78 cs = some x) : ∃ a : Ino, a.fine ∧ a.cells = cs := by
  have hC : Try.prog.cellsOf 78 = 37 := by kernel_rfl
  have hI : Try.prog.cellsOf 3 = 1 := by kernel_rfl
  have hH : Try.prog.cellsOf 76 = 32 := by kernel_rfl
  have hU : Try.prog.cellsOf 5 = 1 := by kernel_rfl
  obtain ⟨ys, n, _, _, hl, hlen, hf⟩ := DataW.trod_struct Try.underlying78 h
  rw [hC] at hl
  have hlen' : ys.length = 6 := hlen
  have g0 := hf 0 _ rfl
  change DataW.trod enc Try.prog w base spare held n 3 ((cs.drop 0).take (Try.prog.cellsOf 3)) = _ at g0
  rw [hI] at g0
  have g1 := hf 1 _ rfl
  change DataW.trod enc Try.prog w base spare held n 3 ((cs.drop 1).take (Try.prog.cellsOf 3)) = _ at g1
  rw [hI] at g1
  have g2 := hf 2 _ rfl
  change DataW.trod enc Try.prog w base spare held n 3 ((cs.drop 2).take (Try.prog.cellsOf 3)) = _ at g2
  rw [hI] at g2
  have g3 := hf 3 _ rfl
  change DataW.trod enc Try.prog w base spare held n 3 ((cs.drop 3).take (Try.prog.cellsOf 3)) = _ at g3
  rw [hI] at g3
  have g4 := hf 4 _ rfl
  change DataW.trod enc Try.prog w base spare held n 3 ((cs.drop 4).take (Try.prog.cellsOf 3)) = _ at g4
  rw [hI] at g4
  have g5 := hf 5 _ rfl
  change DataW.trod enc Try.prog w base spare held n 76 ((cs.drop 5).take (Try.prog.cellsOf 76)) = _ at g5
  rw [hH] at g5
  have yy : ∀ i (hi : i < 6), ys[i]? = some (ys[i]'(by omega)) := fun i hi => List.getElem?_eq_getElem (by omega)
  obtain ⟨a0, h0, _, _⟩ := DataW.trod_int Try.underlying3 (g0.trans (yy 0 (by omega)))
  obtain ⟨a1, h1, _, _⟩ := DataW.trod_int Try.underlying3 (g1.trans (yy 1 (by omega)))
  obtain ⟨a2, h2, _, _⟩ := DataW.trod_int Try.underlying3 (g2.trans (yy 2 (by omega)))
  obtain ⟨a3, h3, _, _⟩ := DataW.trod_int Try.underlying3 (g3.trans (yy 3 (by omega)))
  obtain ⟨a4, h4, _, _⟩ := DataW.trod_int Try.underlying3 (g4.trans (yy 4 (by omega)))
  obtain ⟨hh, hhc, hhs⟩ := open_bytes Try.underlying76 Try.underlying5 hU hH (g5.trans (yy 5 (by omega)))
  refine ⟨⟨a0, a1, a2, a3, a4, hh⟩, hhs, ?_⟩
  unfold Ino.cells
  exact ino_cells hl h0 h1 h2 h3 h4 hhc

theorem open_inos {fuel : Nat} {x : DataW H × List MemPlace} {A : Option Addr} {len cap : Nat} (h : DataW.trod enc Try.prog w base spare held fuel 64 [.slice A len cap] = some x) (hlt : ∀ y ∈ x.2, y.block < w.heap.size)
    (hw : ∀ k ∈ x.1.weights Try.prog 64, k ≤ reachBytes) : ∃ xs, InosIn w A len cap xs := by
  have hC : Try.prog.cellsOf 78 = 37 := by kernel_rfl
  rcases open_slice Try.underlying64 h with ⟨hcs, _⟩ | ⟨a, l, c, m, n, D, Pl, hcs, hb, hl, hm, hmm, hx, hi⟩
  · simp at hcs
    obtain ⟨rfl, rfl, rfl⟩ := hcs
    exact ⟨[], ⟨rfl, (fun a ha => by cases ha), .inl rfl⟩, Nat.le_refl _, Nat.zero_le _, fun _ => rfl⟩
  · simp at hcs
    obtain ⟨rfl, rfl, rfl⟩ := hcs
    have hlm : len ≤ m := by
      rw [hmm]
      split
      · exact hl
      · exact Nat.le_refl _
    have hex : ∀ i, i < len → ∃ b : Ino, b.fine ∧ ∀ j v, b.cells[j]? = some v → w.cell? ((a.add (i * 37)).add j) = some v := by
      intro i hil
      obtain ⟨cs', hc, ht⟩ := hi i (by omega)
      rw [hC] at hc
      obtain ⟨_, hcl, hat⟩ := World.cells?_some hc
      obtain ⟨b, hbf, hbc⟩ := open_ino ht
      refine ⟨b, hbf, fun j v hv => ?_⟩
      rw [hbc] at hv
      have hj : j < 37 := by
        have := (List.getElem?_eq_some_iff.1 hv).1
        omega
      rw [hat j hj, hv]
    let g : Nat → Ino := fun i => if hil : i < len then Classical.choose (hex i hil) else ⟨0, 0, 0, 0, 0, noHash⟩
    have hg : ∀ i (hil : i < len), (g i).fine ∧ ∀ j v, (g i).cells[j]? = some v → w.cell? ((a.add (i * 37)).add j) = some v := by
      intro i hil
      have : g i = Classical.choose (hex i hil) := by simp [g, hil]
      rw [this]
      exact Classical.choose_spec (hex i hil)
    have hm72 : len * 72 ≤ 140737488351232 := by
      have hby : Try.prog.bytesOf 78 = 72 := by kernel_rfl
      have hk := hw ((len + (m - len)) * 72) (by
        rw [hx]
        simp only [DataW.weights, Try.underlying64]
        refine List.mem_cons.2 (.inl ?_)
        simp [hby])
      unfold reachBytes at hk
      omega
    refine ⟨(List.range len).map g, ⟨by simp, ?_, ?_⟩, hl, hm72, fun h => by cases h⟩
    · intro b hb
      obtain ⟨i, hi, rfl⟩ := List.mem_map.1 hb
      exact (hg i (List.mem_range.1 hi)).1
    · rcases Nat.eq_zero_or_pos len with h0 | h0
      · exact .inl h0
      · refine .inr ⟨a, rfl, ?_, ?_⟩
        · have := hlt (.cell a.block a.off) (by
            rw [hx, hC]
            exact List.mem_append_left _ (row_head a (m * 37) (by omega)))
          exact this
        · intro i hi j v hv
          have hil : i < len := by simpa using hi
          simp only [List.getElem_map, List.getElem_range] at hv
          exact (hg i hil).2 j v hv
end

end Go.Proofs.Ytapegklffglnoaa
