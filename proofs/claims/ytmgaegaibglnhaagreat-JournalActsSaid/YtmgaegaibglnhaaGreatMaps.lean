/- Maps that a call or a value of the program holds: which keys, in the row in which they came, and what stands at them. No function of the program is named here. -/
import Derived.Test.YtmgaegaibglnhaaGreatBlock
import Derived.Maps.Keyed
import Derived.DeepKeys4
import Derived.Carry
import Derived.OwnWalk
namespace Go.Proofs.YtmgaegaibglnhaaGreat
open Go.RowKit
open Go.Maps (Keyed)
open Go.ChangeMaps (setBlock heap_setBlock_same heap_setBlock_other)

/-- Block b is a map that holds just these. -/
def MapAt (w : World) (b : Nat) (m : List (Value × Value)) : Prop := ∃ es clock, w.heap[b]? = some (.map es clock) ∧ es.toList.map (fun e => (e.key, e.val)) = m
/-- What stands at a key. -/
def mapGet (m : List (Value × Value)) (k : Value) : Option Value → Prop
  | none => ∀ p ∈ m, p.1 ≠ k
  | some v => ∃ p ∈ m, p.1 = k ∧ p.2 = v

section
variable {w w' : World} {b : Nat} {m : List (Value × Value)}
theorem MapAt.lt (h : MapAt w b m) : b < w.heap.size := by
  obtain ⟨es, clock, hb, _⟩ := h
  exact (Array.getElem?_eq_some_iff.1 hb).1
theorem MapAt.new (w : World) : MapAt (w.alloc (.map #[] 0)) w.heap.size [] := ⟨#[], 0, (MapKept.heap_alloc w _).1, rfl⟩
theorem MapAt.block (h : MapAt w b m) (e : w'.heap[b]? = w.heap[b]?) : MapAt w' b m := by
  obtain ⟨es, clock, hb, hm⟩ := h
  exact ⟨es, clock, e.trans hb, hm⟩
theorem MapAt.below {B : Nat} (h : MapAt w b m) (hb : Below B w w') (hg : b < B) : MapAt w' b m := h.block (hb.block b hg)
theorem MapAt.on (h : MapAt w b m) (hb : Below w.heap.size w w') : MapAt w' b m := h.below hb h.lt
theorem MapAt.alloc (h : MapAt w b m) (o : Obj) : MapAt (w.alloc o) b m := h.block ((MapKept.heap_alloc w o).2 b h.lt)
theorem MapAt.far (h : MapAt w b m) (p : Addr) (hp : b ≠ p.block) (v : Value) : MapAt (w.setCell p v) b m := by
  obtain ⟨es, clock, hb, hm⟩ := h
  exact ⟨es, clock, (heap_setCell_other w p b v hp).trans hb, hm⟩
theorem MapAt.fars (h : MapAt w b m) (g o : Nat) (vs : List Value) (hg : b ≠ g) : MapAt (w.setCells g o vs) b m := by
  induction vs generalizing w o with
  | nil => exact h
  | cons v vs ih => exact ih (h.far _ hg v) (o + 1)
end

section
variable {P : Program} {w : World} {b : Nat} {m : List (Value × Value)} {t k e : TypeId}

/-- A key is looked for. -/
theorem MapAt.find (h : MapAt w b m) (K : Keyed P k) (hk : ∀ p ∈ m, ∃ l, keyOf P k p.1 = some l) {key : Value} {kl : Lit} (hkey : keyOf P k key = some kl) :
    ∃ es clock, w.heap[b]? = some (.map es clock) ∧ es.toList.map (fun e => (e.key, e.val)) = m ∧
      (((Instr.findKey k key es.toList).run P w = .ok none w ∧ mapGet m key none) ∨
        ∃ i v, (Instr.findKey k key es.toList).run P w = .ok (some (i, v)) w ∧ mapGet m key (some v)) := by
  obtain ⟨es, clock, hb, hm⟩ := h
  refine ⟨es, clock, hb, hm, ?_⟩
  have hes : ∀ x ∈ es.toList, ∃ l, keyOf P k x.key = some l := fun x hx => by
    have : (x.key, x.val) ∈ m := by rw [← hm]; exact List.mem_map.2 ⟨x, hx, rfl⟩
    exact hk _ this
  rcases K.find w hkey es.toList hes with ⟨h1, h2⟩ | ⟨j, e0, h1, h2, h3⟩
  · refine .inl ⟨h1, fun p hp => ?_⟩
    rw [← hm] at hp
    obtain ⟨x, hx, rfl⟩ := List.mem_map.1 hp
    exact h2 x hx
  · refine .inr ⟨j, e0.val, h1, ?_⟩
    refine ⟨(e0.key, e0.val), ?_, h3, rfl⟩
    rw [← hm]
    exact List.mem_map.2 ⟨e0, List.mem_of_getElem? h2, rfl⟩

/-- 'm[k]', 'v, ok := m[k]'. -/
theorem MapAt.look (h : MapAt w b m) (c : Bool) (K : Keyed P k) (hk : ∀ p ∈ m, ∃ l, keyOf P k p.1 = some l) (ht : P.underlying t = some (.map k e)) {z : Value} (hz : (zeroValue e).run P w = .ok z w) {key : Value} {kl : Lit} (hkey : keyOf P k key = some kl) :
    ((Instr.lookup t (.map (some b)) key c).run P w = .ok (if c then .tuple #[z, .bool false] else z) w ∧ mapGet m key none) ∨
      ∃ v, (Instr.lookup t (.map (some b)) key c).run P w = .ok (if c then .tuple #[v, .bool true] else v) w ∧ mapGet m key (some v) := by
  obtain ⟨es, clock, hb, hm, hf⟩ := h.find K hk hkey
  rcases hf with ⟨h1, h2⟩ | ⟨i, v, h1, h2⟩
  · exact .inl ⟨by simp [Instr.lookup, run_underlying ht, MapKept.run_getObj_map hb, K.check w _ hkey, h1, hz, Result.andThen], h2⟩
  · exact .inr ⟨v, by simp [Instr.lookup, run_underlying ht, MapKept.run_getObj_map hb, K.check w _ hkey, h1, Result.andThen], h2⟩

/-- 'm[k] = v' at a key that is not there. -/
theorem MapAt.put (h : MapAt w b m) (K : Keyed P k) (hk : ∀ p ∈ m, ∃ l, keyOf P k p.1 = some l) (ht : P.underlying t = some (.map k e)) {key : Value} {kl : Lit} (hkey : keyOf P k key = some kl) (hn : mapGet m key none) (v : Value) :
    ∃ w', (Instr.mapUpdate t (.map (some b)) key v).run P w = .ok () w' ∧ MapAt w' b (m ++ [(key, v)]) ∧ w'.heap.size = w.heap.size ∧ (∀ i, i ≠ b → w'.heap[i]? = w.heap[i]?) ∧ w.grownBy w' (some b) := by
  obtain ⟨es, clock, hb, hm, hf⟩ := h.find K hk hkey
  rcases hf with ⟨h1, h2⟩ | ⟨i, v', h1, p, hp, h2, _⟩
  · refine ⟨setBlock w b (.map (es.push ⟨key, v, clock⟩) (clock + 1)), ?_, ⟨_, _, heap_setBlock_same hb _, ?_⟩, by simp [setBlock], fun i hi => heap_setBlock_other hb _ hi, ⟨rfl, rfl, rfl, by simp [setBlock], fun i _ hi => heap_setBlock_other hb _ (fun e => hi (by rw [e]))⟩⟩
    · simp [Instr.mapUpdate, run_underlying ht, MapKept.run_getObj_map hb, K.check w false hkey, h1, MapKept.run_setObj_map _ hb, Result.andThen, setBlock]
    · rw [Array.toList_push, List.map_append, hm]
      rfl
  · exact absurd h2 (hn p hp)

/-- len(m). -/
theorem MapAt.len (h : MapAt w b m) (ht : P.underlying t = some (.map k e)) (ty : TypeId) : (Builtin.len_ #[t] ty #[.map (some b)]).run P w = .ok (.int .i64 (m.length : Int)) w := by
  obtain ⟨es, clock, hb, hm⟩ := h
  have : es.size = m.length := by rw [← hm]; simp
  simp [Builtin.len_, run_underlying ht, MapKept.run_getObj_map hb, Result.andThen, this, goInt]

/-- clear(m). -/
theorem MapAt.clear (h : MapAt w b m) (ht : P.underlying t = some (.map k e)) (ty : TypeId) :
    ∃ w', (Builtin.clear_ #[t] ty #[.map (some b)]).run P w = .ok (.tuple #[]) w' ∧ MapAt w' b [] ∧ w'.heap.size = w.heap.size ∧ (∀ i, i ≠ b → w'.heap[i]? = w.heap[i]?) ∧ w.grownBy w' (some b) := by
  obtain ⟨es, clock, hb, hm⟩ := h
  refine ⟨setBlock w b (.map #[] clock), ?_, ⟨_, _, heap_setBlock_same hb _, rfl⟩, by simp [setBlock], fun i hi => heap_setBlock_other hb _ hi, ⟨rfl, rfl, rfl, by simp [setBlock], fun i _ hi => heap_setBlock_other hb _ (fun e => hi (by rw [e]))⟩⟩
  simp [Builtin.clear_, run_underlying ht, MapKept.run_getObj_map hb, MapKept.run_setObj_map _ hb, Result.andThen, setBlock]
end

/-- 'm[k] = v' as an operation. -/
theorem wp_mapPut {P : Program} {o : Oper} {a : Act} {w w' : World} {K : Act → World → Prop} {Q : Exit → Act → World → Prop} (m x v : Operand) (t : TypeId) (ho : o.op = .mapUpdate t m x v) (M key val : Value) (hm : a.eval m = M) (hx : a.eval x = key) (hv : a.eval v = val)
    (hr : (Instr.mapUpdate t M key val).run P w = .ok () w') (h : K (a.put o.dst undef) w') : o.wp P a w K Q := by
  unfold Oper.wp
  simp [execOp, ho, hm, hx, hv, hr, Result.andThen]
  exact h

end Go.Proofs.YtmgaegaibglnhaaGreat
