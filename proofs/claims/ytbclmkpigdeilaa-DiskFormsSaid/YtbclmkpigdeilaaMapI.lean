/- Maps that a value of the program holds, whose entries bear their stamps: what a range over their keys asks. No function of the program is named here. -/
import Derived.Test.YtbclmkpigdeilaaMaps
import Derived.Lib.SlKeysI
namespace Go.Proofs.Ytbclmkpigdeilaa
open Go.RowKit
open Go.Maps (Keyed)
open Go.ChangeMaps (setBlock heap_setBlock_same heap_setBlock_other)
open Go.WideElems (Fit rd rg)

/-- Block b is a map that holds just these. -/
def MapS (w : World) (b : Nat) (m : List (Value × Value)) : Prop := ∃ es clock, w.heap[b]? = some (.map es clock) ∧ es.toList.map (fun e => (e.key, e.val)) = m ∧ MapKept.Stamped es clock

section
variable {w w' : World} {b : Nat} {m : List (Value × Value)}
theorem MapS.at_ (h : MapS w b m) : MapAt w b m := by
  obtain ⟨es, clock, hb, hm, _⟩ := h
  exact ⟨es, clock, hb, hm⟩
theorem MapS.lt (h : MapS w b m) : b < w.heap.size := h.at_.lt
theorem MapS.new (w : World) : MapS (w.alloc (.map #[] 0)) w.heap.size [] := ⟨#[], 0, (MapKept.heap_alloc w _).1, rfl, MapKept.stamped_empty 0⟩
theorem MapS.block (h : MapS w b m) (e : w'.heap[b]? = w.heap[b]?) : MapS w' b m := by
  obtain ⟨es, clock, hb, hm, hs⟩ := h
  exact ⟨es, clock, e.trans hb, hm, hs⟩
theorem MapS.below {B : Nat} (h : MapS w b m) (hb : Below B w w') (hg : b < B) : MapS w' b m := h.block (hb.block b hg)
theorem MapS.on (h : MapS w b m) (hb : Below w.heap.size w w') : MapS w' b m := h.below hb h.lt
theorem MapS.alloc (h : MapS w b m) (o : Obj) : MapS (w.alloc o) b m := h.block ((MapKept.heap_alloc w o).2 b h.lt)
theorem MapS.far (h : MapS w b m) (p : Addr) (hp : b ≠ p.block) (v : Value) : MapS (w.setCell p v) b m := h.block (heap_setCell_other w p b v hp)
theorem MapS.fars (h : MapS w b m) (g o : Nat) (vs : List Value) (hg : b ≠ g) : MapS (w.setCells g o vs) b m := by
  induction vs generalizing w o with
  | nil => exact h
  | cons v vs ih => exact ih (h.far _ hg v) (o + 1)
end

section
variable {P : Program} {w : World} {b : Nat} {m : List (Value × Value)} {t k e : TypeId}
/-- 'm[k] = v' at a key that is not there. -/
theorem MapS.put (h : MapS w b m) (K : Keyed P k) (hk : ∀ p ∈ m, ∃ l, keyOf P k p.1 = some l) (ht : P.underlying t = some (.map k e)) {key : Value} {kl : Lit} (hkey : keyOf P k key = some kl) (hn : mapGet m key none) (v : Value) :
    ∃ w', (Instr.mapUpdate t (.map (some b)) key v).run P w = .ok () w' ∧ MapS w' b (m ++ [(key, v)]) ∧ w'.heap.size = w.heap.size ∧ (∀ i, i ≠ b → w'.heap[i]? = w.heap[i]?) ∧ w.grownBy w' (some b) := by
  obtain ⟨es, clock, hb, hm, hs⟩ := h
  have hes : ∀ x ∈ es.toList, ∃ l, keyOf P k x.key = some l := fun x hx => by
    have : (x.key, x.val) ∈ m := by rw [← hm]; exact List.mem_map.2 ⟨x, hx, rfl⟩
    exact hk _ this
  have hno : ∀ x ∈ es.toList, x.key ≠ key := fun x hx => hn (x.key, x.val) (by rw [← hm]; exact List.mem_map.2 ⟨x, hx, rfl⟩)
  rcases K.find w hkey es.toList hes with ⟨h1, h2⟩ | ⟨j, e0, h1, h2, h3⟩
  · refine ⟨setBlock w b (.map (es.push ⟨key, v, clock⟩) (clock + 1)), ?_, ⟨_, _, heap_setBlock_same hb _, ?_, MapKept.stamped_push hs hno⟩, by simp [setBlock], fun i hi => heap_setBlock_other hb _ hi, ⟨rfl, rfl, rfl, by simp [setBlock], fun i _ hi => heap_setBlock_other hb _ (fun e => hi (by rw [e]))⟩⟩
    · simp [Instr.mapUpdate, run_underlying ht, MapKept.run_getObj_map hb, K.check w false hkey, h1, MapKept.run_setObj_map _ hb, Result.andThen, setBlock]
    · rw [Array.toList_push, List.map_append, hm]
      rfl
  · exact absurd h3 (hno e0 (List.mem_of_getElem? h2))

/-- clear(m). -/
theorem MapS.clear (h : MapS w b m) (ht : P.underlying t = some (.map k e)) (ty : TypeId) :
    ∃ w', (Builtin.clear_ #[t] ty #[.map (some b)]).run P w = .ok (.tuple #[]) w' ∧ MapS w' b [] ∧ w'.heap.size = w.heap.size ∧ (∀ i, i ≠ b → w'.heap[i]? = w.heap[i]?) ∧ w.grownBy w' (some b) := by
  obtain ⟨es, clock, hb, hm, hs⟩ := h
  refine ⟨setBlock w b (.map #[] clock), ?_, ⟨_, _, heap_setBlock_same hb _, rfl, MapKept.stamped_empty clock⟩, by simp [setBlock], fun i hi => heap_setBlock_other hb _ hi, ⟨rfl, rfl, rfl, by simp [setBlock], fun i _ hi => heap_setBlock_other hb _ (fun e => hi (by rw [e]))⟩⟩
  simp [Builtin.clear_, run_underlying ht, MapKept.run_getObj_map hb, MapKept.run_setObj_map _ hb, Result.andThen, setBlock]

/-- How an element reads where nobody asks. -/
def anyRead : Value → Option (DataW Unit × List MemPlace) := fun _ => some (.lit (.bool true), [])
/-- A map's keys that are ints: what a range over them asks. -/
theorem MapS.keys {ks : List Int} (h : MapS w b m) (hk : P.underlying k = some (.int .i64)) (hm : m.map (·.1) = ks.map encZ) (hw : ∀ x ∈ ks, (Lit.int .i64 x).wf = true) (hl : ks.length ≤ maxLen) :
    ∃ D : DataW Unit, w.ownsMap P k anyRead b ks.length D ∧ (intKeys D).Perm ks ∧ Maps.size D = ks.length := by
  obtain ⟨es, clock, hb, hes, hs⟩ := h
  have hsz : es.size = ks.length := by
    have h1 := congrArg List.length hes
    have h2 := congrArg List.length hm
    simp at h1 h2
    omega
  have hkeys : es.toList.map (·.key) = ks.map encZ := by
    rw [← hm, ← hes, List.map_map]
    rfl
  have hrd : ∀ x ∈ es.toList, ∃ a : Int, a ∈ ks ∧ x.key = encZ a ∧ rd P k anyRead x = some (.int .i64 a, .lit (.bool true)) := fun x hx => by
    have hx' : x.key ∈ ks.map encZ := by rw [← hkeys]; exact List.mem_map.2 ⟨x, hx, rfl⟩
    obtain ⟨a, ha, he⟩ := List.mem_map.1 hx'
    refine ⟨a, ha, he.symm, ?_⟩
    unfold rd
    rw [← he, show keyOf P k (encZ a) = some (.int .i64 a) from Maps.keyOf_int_mk hk (hw a ha)]
    rfl
  have hrg : es.toList.map (rg P k anyRead) = ks.map fun a => ((Lit.int .i64 a), (.lit (.bool true) : DataW Unit)) := by
    have e1 : es.toList.map (rg P k anyRead) = es.toList.map fun x => ((match x.key with | .int .i64 a => Lit.int .i64 a | _ => .bool false), (.lit (.bool true) : DataW Unit)) := by
      refine List.map_congr_left fun x hx => ?_
      obtain ⟨a, _, hxa, hr⟩ := hrd x hx
      unfold rg
      rw [hr, hxa]
      rfl
    rw [e1]
    have e2 : (es.toList.map fun x => ((match x.key with | .int .i64 a => Lit.int .i64 a | _ => .bool false), (.lit (.bool true) : DataW Unit))) = (es.toList.map (·.key)).map fun v => ((match v with | .int .i64 a => Lit.int .i64 a | _ => .bool false), (.lit (.bool true) : DataW Unit)) := by
      rw [List.map_map]
      rfl
    rw [e2, hkeys, List.map_map]
    rfl
  refine ⟨_, ⟨es, clock, hb, ⟨by omega, hs, fun x hx => ?_⟩, by omega, rfl⟩, ?_, ?_⟩
  · obtain ⟨a, _, _, hr⟩ := hrd x hx
    exact ⟨_, hr⟩
  · rw [hrg]
    unfold intKeys
    refine ((WideShapes.sorted_perm _).map _).trans ?_
    rw [List.map_map]
    have : (ks.map ((fun p : Lit × DataW Unit => Go.intOf p.1) ∘ fun a => (Lit.int .i64 a, (.lit (.bool true) : DataW Unit)))) = ks := by
      exact (List.map_congr_left fun a _ => rfl).trans (List.map_id ks)
    rw [this]
  · rw [hrg, Maps.size_eq, (WideShapes.sorted_perm _).length_eq, List.length_map]
end

end Go.Proofs.Ytbclmkpigdeilaa
