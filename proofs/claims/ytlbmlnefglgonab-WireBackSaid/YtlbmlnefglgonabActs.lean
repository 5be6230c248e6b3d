/- What layer 3's statements are handed: acts. -/
import Derived.Test.YtlbmlnefglgonabWireH
import Derived.ChangeArms
import Derived.OpenShut
import Derived.DataReads
import Derived.Deep.Slices
import Derived.ProofKit
import Derived.ChangeOld
namespace Go.Proofs.Ytlbmlnefglgonab
open Go.RowKit
open Go.Lib (strCells strCells_length strCells_oneCell)

/-- An act: its kind, a number, a size, a text, a hash. -/
structure ActOf where
  kind : Int
  x : Int
  size : Int
  s : ByteArray
  h : ByteArray

def ActOf.cells (a : ActOf) : List Value := [.int .i64 a.kind, .int .i64 a.x, .int .i64 a.size, .string a.s] ++ strCells a.h
def ActOf.fine (a : ActOf) : Prop := a.h.size = 32 ∧ a.s.size ≤ 9223372036854775807

theorem ActOf.len {a : ActOf} (h : a.fine) : a.cells.length = 36 := by
  unfold ActOf.cells
  rw [List.length_append, strCells_length, h.1]
  rfl

theorem ActOf.one (a : ActOf) : ∀ v ∈ a.cells, v.oneCell' = true := by
  intro v hv
  unfold ActOf.cells at hv
  rcases List.mem_append.1 hv with h | h
  · simp at h
    rcases h with rfl | rfl | rfl | rfl <;> rfl
  · exact strCells_oneCell _ v h

/-- The slice at A reads as these acts. -/
def Acts (w : World) (B : Nat) (A : Option Addr) (n : Nat) (xs : List ActOf) : Prop :=
  xs.length = n ∧ (∀ a ∈ xs, a.fine) ∧ (n = 0 ∨ ∃ p : Addr, A = some p ∧ p.block < B ∧ ∀ i (hi : i < xs.length), ∀ j v, xs[i].cells[j]? = some v → w.cell? ((p.add (i * 36)).add j) = some v)

theorem Acts.below {w w' : World} {B : Nat} {A : Option Addr} {n : Nat} {xs : List ActOf} (h : Acts w B A n xs) (hb : Below B w w') : Acts w' B A n xs := by
  obtain ⟨h1, h2, h3⟩ := h
  refine ⟨h1, h2, ?_⟩
  rcases h3 with h3 | ⟨p, hA, hB, hc⟩
  · exact .inl h3
  · exact .inr ⟨p, hA, hB, fun i hi j v hv => (hb.cell (by rw [add_block, add_block]; exact hB)).trans (hc i hi j v hv)⟩

section
variable {P : Program} {ops : Array Oper} {o : Oper} {a : Act} {w : World} {Q : Exit → Act → World → Prop}
/-- A whole struct or array, wherever its cells begin. -/
theorem run_loadVar_at (p : Addr) (ty : TypeId) (cs : List Value) (d : TypeDesc) (hc : ∀ j v, cs[j]? = some v → w.cell? (p.add j) = some v)
    (hu : P.underlying ty = some d) (hd : d.isRow = true) (hi : (P.info? ty).map (·.size) = some cs.length) : (loadVar ty p).run P w = .ok (.agg cs.toArray) w := by
  have hl : (loadCells p cs.length).run P w = .ok cs.toArray w := run_loadCells_list (P := P) w p cs hc
  cases hq : P.info? ty with
  | none => simp [hq] at hi
  | some i =>
    have hs : i.size = cs.length := by simpa [hq] using hi
    have hagg : (isAgg ty).run P w = .ok true w := by
      unfold isAgg
      rw [Sem.run_bind, run_underlying hu w]
      cases d <;> simp_all
    simp [loadVar, Sem.run_bind, hagg, sizeOf, typeInfo, hq, hs, hl]

theorem wpList_load_at {rest : List Oper} (hgd : o.guard = none) (ty : TypeId) (x : Operand) (ho : o.op = .load ty x) (p : Addr) (hx : a.eval x = .pointer (some p)) (cs : List Value) (d : TypeDesc) (hc : ∀ j v, cs[j]? = some v → w.cell? (p.add j) = some v)
    (hu : P.underlying ty = some d) (hd : d.isRow = true) (hi : (P.info? ty).map (·.size) = some cs.length) (h : wpList P ops Q rest (a.put o.dst (.agg cs.toArray)) w) : wpList P ops Q (o :: rest) a w :=
  wpList_run hgd _ _ (by
    unfold execOp
    simp only [ho, hx, Instr.loadAt, Instr.sureAddr, Sem.run_bind, Sem.run_pure, Result.andThen_ok, run_loadVar_at p ty cs d hc hu hd hi]) h
end

section
variable {H : Type} {enc : TypeId × Value → H} {w : World} {base : Nat} {spare : Nat → Bool} {held : Bool}
open Go.ChangeShapes Go.WideShapes Go.Deep

theorem open_bytes {e : TypeId} {fuel n : Nat} {t : TypeId} {cs : List Value} {x : DataW H × List MemPlace} (ht : Try.prog.underlying t = some (.array n e)) (he : Try.prog.underlying e = some (.int .u8)) (h1 : Try.prog.cellsOf e = 1) (hn : Try.prog.cellsOf t = n)
    (h : DataW.trod enc Try.prog w base spare held fuel t cs = some x) : ∃ s : ByteArray, cs = strCells s ∧ s.size = n := by
  obtain ⟨xs, m, _, _, hl, hlen, hi⟩ := DataW.trod_array ht h
  rw [hn] at hl
  have hall : ∀ i, i < n → ∃ b : UInt8, cs[i]? = some (.int .u8 (b.toNat : Int)) := by
    intro i hin
    have h2 := hi i hin
    rw [h1, Nat.mul_one] at h2
    have hx : xs[i]? = some (xs[i]'(by omega)) := List.getElem?_eq_getElem (by omega)
    obtain ⟨z, hz, _, hw⟩ := DataW.trod_int he (h2.trans hx)
    have hd : (cs.drop i).take 1 = [cs[i]'(by omega)] := by
      rw [List.drop_eq_getElem_cons (by omega)]
      rfl
    rw [hd] at hz
    injection hz with hz
    have hr : 0 ≤ z ∧ z < 256 := by
      simp [Lit.wf] at hw
      have e0 : IntKind.u8.min = 0 := rfl
      have e1 : IntKind.u8.max = 255 := rfl
      omega
    have hb : ((UInt8.ofNat z.toNat).toNat : Int) = z := by
      have : (UInt8.ofNat z.toNat).toNat = z.toNat := by simp; omega
      omega
    exact ⟨UInt8.ofNat z.toNat, by rw [List.getElem?_eq_getElem (by omega), hz, hb]⟩
  let f : Nat → UInt8 := fun i => match cs[i]? with | some (.int .u8 z) => UInt8.ofNat z.toNat | _ => 0
  refine ⟨⟨((List.range n).map f).toArray⟩, ?_, by rw [← data_length]; simp⟩
  apply List.ext_getElem?
  intro i
  unfold strCells
  rw [mk_data, List.map_map, List.getElem?_map]
  by_cases hin : i < n
  · obtain ⟨b, hb⟩ := hall i hin
    have hfi : f i = b := by
      show (match cs[i]? with | some (.int .u8 z) => UInt8.ofNat z.toNat | _ => 0) = b
      rw [hb]
      show UInt8.ofNat ((b.toNat : Int).toNat) = b
      rw [Int.toNat_natCast]
      simp
    rw [hb, List.getElem?_range hin, Option.map_some]
    show _ = some (Value.int .u8 ((f i).toNat : Int))
    rw [hfi]
  · rw [List.getElem?_eq_none (by omega), List.getElem?_eq_none (by simp; omega)]
    rfl

theorem act_cells {cs r : List Value} {v0 v1 v2 v3 : Value} (hl : cs.length = 36) (h0 : (cs.drop 0).take 1 = [v0]) (h1 : (cs.drop 1).take 1 = [v1]) (h2 : (cs.drop 2).take 1 = [v2]) (h3 : (cs.drop 3).take 1 = [v3]) (h4 : (cs.drop 4).take 32 = r) :
    [v0, v1, v2, v3] ++ r = cs := by
  match cs, hl with
  | c0 :: c1 :: c2 :: c3 :: rest, hl =>
    have h32 : rest.length = 32 := by simpa using hl
    simp at h0 h1 h2 h3
    have e4 : List.take 32 rest = r := h4
    rw [List.take_of_length_le (by omega)] at e4
    simp [h0, h1, h2, h3, e4]

theorem open_act {fuel : Nat} {cs : List Value} {x : DataW H × List MemPlace} (h : DataW.trod enc Try.prog w base spare held fuel 32 cs = some x) : ∃ a : ActOf, a.fine ∧ a.cells = cs := by
  have hC : Try.prog.cellsOf 32 = 36 := by kernel_rfl
  have hI : Try.prog.cellsOf 3 = 1 := by kernel_rfl
  have hS : Try.prog.cellsOf 9 = 1 := by kernel_rfl
  have hH : Try.prog.cellsOf 30 = 32 := by kernel_rfl
  have hU : Try.prog.cellsOf 5 = 1 := by kernel_rfl
  obtain ⟨ys, n, _, _, hl, hlen, hf⟩ := DataW.trod_struct Try.underlying32 h
  rw [hC] at hl
  have hlen' : ys.length = 5 := hlen
  have g0 := hf 0 _ rfl
  change DataW.trod enc Try.prog w base spare held n 3 ((cs.drop 0).take (Try.prog.cellsOf 3)) = _ at g0
  rw [hI] at g0
  have g1 := hf 1 _ rfl
  change DataW.trod enc Try.prog w base spare held n 3 ((cs.drop 1).take (Try.prog.cellsOf 3)) = _ at g1
  rw [hI] at g1
  have g2 := hf 2 _ rfl
  change DataW.trod enc Try.prog w base spare held n 3 ((cs.drop 2).take (Try.prog.cellsOf 3)) = _ at g2
  rw [hI] at g2
  have g3 := hf 3 _ rfl
  change DataW.trod enc Try.prog w base spare held n 9 ((cs.drop 3).take (Try.prog.cellsOf 9)) = _ at g3
  rw [hS] at g3
  have g4 := hf 4 _ rfl
  change DataW.trod enc Try.prog w base spare held n 30 ((cs.drop 4).take (Try.prog.cellsOf 30)) = _ at g4
  rw [hH] at g4
  have yy : ∀ i (hi : i < 5), ys[i]? = some (ys[i]'(by omega)) := fun i hi => List.getElem?_eq_getElem (by omega)
  obtain ⟨k, hk, _, _⟩ := DataW.trod_int Try.underlying3 (g0.trans (yy 0 (by omega)))
  obtain ⟨a, ha, _, _⟩ := DataW.trod_int Try.underlying3 (g1.trans (yy 1 (by omega)))
  obtain ⟨z, hz, _, _⟩ := DataW.trod_int Try.underlying3 (g2.trans (yy 2 (by omega)))
  obtain ⟨s, hs, _, hsz⟩ := DataW.trod_string Try.underlying9 (g3.trans (yy 3 (by omega)))
  obtain ⟨hh, hhc, hhs⟩ := open_bytes Try.underlying30 Try.underlying5 hU hH (g4.trans (yy 4 (by omega)))
  refine ⟨⟨k, a, z, s, hh⟩, ⟨hhs, hsz⟩, ?_⟩
  unfold ActOf.cells
  exact act_cells hl hk ha hz hs hhc

theorem open_acts {fuel : Nat} {x : DataW H × List MemPlace} {A : Option Addr} {len cap : Nat} (h : DataW.trod enc Try.prog w base spare held fuel 22 [.slice A len cap] = some x) (hlt : ∀ y ∈ x.2, y.block < w.heap.size) :
    ∃ xs, Acts w w.heap.size A len xs ∧ len ≤ maxLen := by
  have hC : Try.prog.cellsOf 32 = 36 := by kernel_rfl
  rcases open_slice Try.underlying22 h with ⟨hcs, _⟩ | ⟨a, l, c, m, n, D, Pl, hcs, hb, hl, hm, hmm, hx, hi⟩
  · simp at hcs
    obtain ⟨rfl, rfl, rfl⟩ := hcs
    exact ⟨[], ⟨rfl, (fun a ha => by cases ha), .inl rfl⟩, Nat.zero_le _⟩
  · simp at hcs
    obtain ⟨rfl, rfl, rfl⟩ := hcs
    have hlm : len ≤ m := by
      rw [hmm]
      split
      · exact hl
      · exact Nat.le_refl _
    have hex : ∀ i, i < len → ∃ b : ActOf, b.fine ∧ ∀ j v, b.cells[j]? = some v → w.cell? ((a.add (i * 36)).add j) = some v := by
      intro i hil
      obtain ⟨cs', hc, ht⟩ := hi i (by omega)
      rw [hC] at hc
      obtain ⟨_, hcl, hat⟩ := World.cells?_some hc
      obtain ⟨b, hbf, hbc⟩ := open_act ht
      refine ⟨b, hbf, fun j v hv => ?_⟩
      rw [hbc] at hv
      have hj : j < 36 := by
        have := (List.getElem?_eq_some_iff.1 hv).1
        omega
      rw [hat j hj, hv]
    let g : Nat → ActOf := fun i => if hil : i < len then Classical.choose (hex i hil) else ⟨0, 0, 0, ByteArray.empty, ByteArray.empty⟩
    have hg : ∀ i (hil : i < len), (g i).fine ∧ ∀ j v, (g i).cells[j]? = some v → w.cell? ((a.add (i * 36)).add j) = some v := by
      intro i hil
      have : g i = Classical.choose (hex i hil) := by simp [g, hil]
      rw [this]
      exact Classical.choose_spec (hex i hil)
    refine ⟨(List.range len).map g, ⟨by simp, ?_, ?_⟩, Nat.le_trans hl hm⟩
    · intro b hb
      obtain ⟨i, hi, rfl⟩ := List.mem_map.1 hb
      exact (hg i (List.mem_range.1 hi)).1
    · rcases Nat.eq_zero_or_pos len with h0 | h0
      · exact .inl h0
      · refine .inr ⟨a, rfl, ?_, ?_⟩
        · have := hlt (.cell a.block a.off) (by
            rw [hx, hC]
            exact List.mem_append_left _ (row_head a (m * 36) (by omega)))
          exact this
        · intro i hi j v hv
          have hil : i < len := by simpa using hi
          simp only [List.getElem_map, List.getElem_range] at hv
          exact (hg i hil).2 j v hv
end

end Go.Proofs.Ytlbmlnefglgonab
