/- Maps that a value of the program holds, whose entries bear their stamps: what a range over their keys asks. No function of the program is named here.
   Layer 7, the program's side: a disk in memory; New, Read, Sync, Dirty, Sectors.
   Layer 7, the program's side: a disk's New, Read, Sync, Dirty, Sectors.
   Layer 7, the program's side: a disk's Write.
   Layer 7: the library's Keys, Sorted, Sort at this program.
   Layer 7, the program's side: the unsynced sectors' places, sorted.
   Layer 7, the program's side: a disk's Crash. -/
import Derived.Test.YtmgaegaibglnhaaGreatMaps
import Derived.Lib.SlKeysI
import Derived.Test.YtmgaegaibglnhaaGreatDkP
import Derived.Test.YtmgaegaibglnhaaGreatLoadOn
import Derived.Test.YtmgaegaibglnhaaGreatYields
import Derived.Test.YtmgaegaibglnhaaGreatNum0
import Derived.Shelf.SlIterI.Nil
import Derived.Shelf.SortM.Plain
import Derived.Shelf.SortM.SortNone
import Derived.Ground.GgzProg
import Derived.Ground.SlgmProg
import Derived.Test.YtmgaegaibglnhaaGreatRows
import Derived.Test.YtmgaegaibglnhaaGreatWords
namespace Go.Proofs.YtmgaegaibglnhaaGreat
open Go.RowKit
open Go.Maps (Keyed)
open Go.ChangeMaps (setBlock heap_setBlock_same heap_setBlock_other)
open Go.WideElems (Fit rd rg)

/-- Block b is a map that holds just these. -/
def MapS (w : World) (b : Nat) (m : List (Value × Value)) : Prop := ∃ es clock, w.heap[b]? = some (.map es clock) ∧ es.toList.map (fun e => (e.key, e.val)) = m ∧ MapKept.Stamped es clock

section
variable {w w' : World} {b : Nat} {m : List (Value × Value)}
theorem MapS.at_ (h : MapS w b m) : MapAt w b m := by
  obtain ⟨es, clock, hb, hm, _⟩ := h
  exact ⟨es, clock, hb, hm⟩
theorem MapS.lt (h : MapS w b m) : b < w.heap.size := h.at_.lt
theorem MapS.new (w : World) : MapS (w.alloc (.map #[] 0)) w.heap.size [] := ⟨#[], 0, (MapKept.heap_alloc w _).1, rfl, MapKept.stamped_empty 0⟩
theorem MapS.block (h : MapS w b m) (e : w'.heap[b]? = w.heap[b]?) : MapS w' b m := by
  obtain ⟨es, clock, hb, hm, hs⟩ := h
  exact ⟨es, clock, e.trans hb, hm, hs⟩
theorem MapS.below {B : Nat} (h : MapS w b m) (hb : Below B w w') (hg : b < B) : MapS w' b m := h.block (hb.block b hg)
theorem MapS.on (h : MapS w b m) (hb : Below w.heap.size w w') : MapS w' b m := h.below hb h.lt
theorem MapS.alloc (h : MapS w b m) (o : Obj) : MapS (w.alloc o) b m := h.block ((MapKept.heap_alloc w o).2 b h.lt)
theorem MapS.far (h : MapS w b m) (p : Addr) (hp : b ≠ p.block) (v : Value) : MapS (w.setCell p v) b m := h.block (heap_setCell_other w p b v hp)
theorem MapS.fars (h : MapS w b m) (g o : Nat) (vs : List Value) (hg : b ≠ g) : MapS (w.setCells g o vs) b m := by
  induction vs generalizing w o with
  | nil => exact h
  | cons v vs ih => exact ih (h.far _ hg v) (o + 1)
end

section
variable {P : Program} {w : World} {b : Nat} {m : List (Value × Value)} {t k e : TypeId}
/-- 'm[k] = v' at a key that is not there. -/
theorem MapS.put (h : MapS w b m) (K : Keyed P k) (hk : ∀ p ∈ m, ∃ l, keyOf P k p.1 = some l) (ht : P.underlying t = some (.map k e)) {key : Value} {kl : Lit} (hkey : keyOf P k key = some kl) (hn : mapGet m key none) (v : Value) :
    ∃ w', (Instr.mapUpdate t (.map (some b)) key v).run P w = .ok () w' ∧ MapS w' b (m ++ [(key, v)]) ∧ w'.heap.size = w.heap.size ∧ (∀ i, i ≠ b → w'.heap[i]? = w.heap[i]?) ∧ w.grownBy w' (some b) := by
  obtain ⟨es, clock, hb, hm, hs⟩ := h
  have hes : ∀ x ∈ es.toList, ∃ l, keyOf P k x.key = some l := fun x hx => by
    have : (x.key, x.val) ∈ m := by rw [← hm]; exact List.mem_map.2 ⟨x, hx, rfl⟩
    exact hk _ this
  have hno : ∀ x ∈ es.toList, x.key ≠ key := fun x hx => hn (x.key, x.val) (by rw [← hm]; exact List.mem_map.2 ⟨x, hx, rfl⟩)
  rcases K.find w hkey es.toList hes with ⟨h1, h2⟩ | ⟨j, e0, h1, h2, h3⟩
  · refine ⟨setBlock w b (.map (es.push ⟨key, v, clock⟩) (clock + 1)), ?_, ⟨_, _, heap_setBlock_same hb _, ?_, MapKept.stamped_push hs hno⟩, by simp [setBlock], fun i hi => heap_setBlock_other hb _ hi, ⟨rfl, rfl, rfl, by simp [setBlock], fun i _ hi => heap_setBlock_other hb _ (fun e => hi (by rw [e]))⟩⟩
    · simp [Instr.mapUpdate, run_underlying ht, MapKept.run_getObj_map hb, K.check w false hkey, h1, MapKept.run_setObj_map _ hb, Result.andThen, setBlock]
    · rw [Array.toList_push, List.map_append, hm]
      rfl
  · exact absurd h3 (hno e0 (List.mem_of_getElem? h2))

/-- clear(m). -/
theorem MapS.clear (h : MapS w b m) (ht : P.underlying t = some (.map k e)) (ty : TypeId) :
    ∃ w', (Builtin.clear_ #[t] ty #[.map (some b)]).run P w = .ok (.tuple #[]) w' ∧ MapS w' b [] ∧ w'.heap.size = w.heap.size ∧ (∀ i, i ≠ b → w'.heap[i]? = w.heap[i]?) ∧ w.grownBy w' (some b) := by
  obtain ⟨es, clock, hb, hm, hs⟩ := h
  refine ⟨setBlock w b (.map #[] clock), ?_, ⟨_, _, heap_setBlock_same hb _, rfl, MapKept.stamped_empty clock⟩, by simp [setBlock], fun i hi => heap_setBlock_other hb _ hi, ⟨rfl, rfl, rfl, by simp [setBlock], fun i _ hi => heap_setBlock_other hb _ (fun e => hi (by rw [e]))⟩⟩
  simp [Builtin.clear_, run_underlying ht, MapKept.run_getObj_map hb, MapKept.run_setObj_map _ hb, Result.andThen, setBlock]

/-- How an element reads where nobody asks. -/
def anyRead : Value → Option (DataW Unit × List MemPlace) := fun _ => some (.lit (.bool true), [])
/-- A map's keys that are ints: what a range over them asks. -/
theorem MapS.keys {ks : List Int} (h : MapS w b m) (hk : P.underlying k = some (.int .i64)) (hm : m.map (·.1) = ks.map encZ) (hw : ∀ x ∈ ks, (Lit.int .i64 x).wf = true) (hl : ks.length ≤ maxLen) :
    ∃ D : DataW Unit, w.ownsMap P k anyRead b ks.length D ∧ (intKeys D).Perm ks ∧ Maps.size D = ks.length := by
  obtain ⟨es, clock, hb, hes, hs⟩ := h
  have hsz : es.size = ks.length := by
    have h1 := congrArg List.length hes
    have h2 := congrArg List.length hm
    simp at h1 h2
    omega
  have hkeys : es.toList.map (·.key) = ks.map encZ := by
    rw [← hm, ← hes, List.map_map]
    rfl
  have hrd : ∀ x ∈ es.toList, ∃ a : Int, a ∈ ks ∧ x.key = encZ a ∧ rd P k anyRead x = some (.int .i64 a, .lit (.bool true)) := fun x hx => by
    have hx' : x.key ∈ ks.map encZ := by rw [← hkeys]; exact List.mem_map.2 ⟨x, hx, rfl⟩
    obtain ⟨a, ha, he⟩ := List.mem_map.1 hx'
    refine ⟨a, ha, he.symm, ?_⟩
    unfold rd
    rw [← he, show keyOf P k (encZ a) = some (.int .i64 a) from Maps.keyOf_int_mk hk (hw a ha)]
    rfl
  have hrg : es.toList.map (rg P k anyRead) = ks.map fun a => ((Lit.int .i64 a), (.lit (.bool true) : DataW Unit)) := by
    have e1 : es.toList.map (rg P k anyRead) = es.toList.map fun x => ((match x.key with | .int .i64 a => Lit.int .i64 a | _ => .bool false), (.lit (.bool true) : DataW Unit)) := by
      refine List.map_congr_left fun x hx => ?_
      obtain ⟨a, _, hxa, hr⟩ := hrd x hx
      unfold rg
      rw [hr, hxa]
      rfl
    rw [e1]
    have e2 : (es.toList.map fun x => ((match x.key with | .int .i64 a => Lit.int .i64 a | _ => .bool false), (.lit (.bool true) : DataW Unit))) = (es.toList.map (·.key)).map fun v => ((match v with | .int .i64 a => Lit.int .i64 a | _ => .bool false), (.lit (.bool true) : DataW Unit)) := by
      rw [List.map_map]
      rfl
    rw [e2, hkeys, List.map_map]
    rfl
  refine ⟨_, ⟨es, clock, hb, ⟨by omega, hs, fun x hx => ?_⟩, by omega, rfl⟩, ?_, ?_⟩
  · obtain ⟨a, _, _, hr⟩ := hrd x hx
    exact ⟨_, hr⟩
  · rw [hrg]
    unfold intKeys
    refine ((WideShapes.sorted_perm _).map _).trans ?_
    rw [List.map_map]
    have : (ks.map ((fun p : Lit × DataW Unit => Go.intOf p.1) ∘ fun a => (Lit.int .i64 a, (.lit (.bool true) : DataW Unit)))) = ks := by
      exact (List.map_congr_left fun a _ => rfl).trans (List.map_id ks)
    rw [this]
  · rw [hrg, Maps.size_eq, (WideShapes.sorted_perm _).length_eq, List.length_map]
end

end Go.Proofs.YtmgaegaibglnhaaGreat
namespace Go.Proofs.YtmgaegaibglnhaaGreat
open Go.RowKit
open Go.Maps (Keyed)
open Go.Lib (strCells strCells_length strCells_oneCell)

theorem Holds.cK {w : World} {g : Nat} {t : TypeId} {cs : List Value} (h : Holds w g t cs) (j : Nat) (v : Value) (hv : cs[j]? = some v) : w.cell? ⟨g, j, none⟩ = some v := (h.cell j).trans hv

theorem holds_fars {w W : World} {g b o : Nat} {t : TypeId} {cs vs : List Value} (e : w.setCells b o vs = W) (h : Holds w g t cs) (hg : g ≠ b) : Holds W g t cs := by
  subst e
  exact h.fars b o vs hg

/-- Sectors, one behind the other. -/
def secCells (xs : List ByteArray) : List Value := xs.flatMap strCells
theorem secCells_length : ∀ (xs : List ByteArray), (∀ x ∈ xs, x.size = 64) → (secCells xs).length = xs.length * 64
  | [], _ => rfl
  | x :: xs, h => by
    have ih := secCells_length xs (fun y hy => h y (List.mem_cons_of_mem _ hy))
    have hx := h x (List.mem_cons_self ..)
    have e : secCells (x :: xs) = strCells x ++ secCells xs := rfl
    rw [e, List.length_append, ih, strCells_length, hx, List.length_cons]
    omega
theorem secCells_at : ∀ (xs : List ByteArray) (_ : ∀ x ∈ xs, x.size = 64) (k : Nat) (x : ByteArray) (_ : xs[k]? = some x) (j : Nat) (_ : j < 64), (secCells xs)[k * 64 + j]? = (strCells x)[j]?
  | [], _, k, x, hk, _, _ => by simp at hk
  | y :: xs, h, 0, x, hk, j, hj => by
    have hy := h y (List.mem_cons_self ..)
    have e : secCells (y :: xs) = strCells y ++ secCells xs := rfl
    have ex : y = x := by simpa using hk
    subst ex
    rw [e, Nat.zero_mul, Nat.zero_add, List.getElem?_append_left (by rw [strCells_length, hy]; exact hj)]
  | y :: xs, h, k + 1, x, hk, j, hj => by
    have hy := h y (List.mem_cons_self ..)
    have e : secCells (y :: xs) = strCells y ++ secCells xs := rfl
    have ih := secCells_at xs (fun y hy => h y (List.mem_cons_of_mem _ hy)) k x (by simpa using hk) j hj
    have hl : (strCells y).length = 64 := by rw [strCells_length, hy]
    rw [e, List.getElem?_append_right (by rw [hl]; omega), hl, ← ih]
    congr 1
    omega
theorem secCells_set : ∀ (xs : List ByteArray) (_ : ∀ x ∈ xs, x.size = 64) (k : Nat) (x : ByteArray) (_ : x.size = 64) (_ : k < xs.length), secCells (xs.set k x) = put (secCells xs) (k * 64) (strCells x)
  | [], _, k, x, _, hk => by simp at hk
  | y :: xs, h, 0, x, hx, _ => by
    have hy : (strCells y).length = 64 := by rw [strCells_length, h y (List.mem_cons_self ..)]
    have hx' : (strCells x).length = 64 := by rw [strCells_length, hx]
    have e : secCells (y :: xs) = strCells y ++ secCells xs := rfl
    have e2 : secCells ((y :: xs).set 0 x) = strCells x ++ secCells xs := rfl
    unfold put
    rw [e2, e, Nat.zero_mul, List.take_zero, List.nil_append, Nat.zero_add, hx', List.drop_append_of_le_length (by rw [hy]; exact Nat.le_refl _), List.drop_of_length_le (by rw [hy]; exact Nat.le_refl _), List.nil_append]
  | y :: xs, h, k + 1, x, hx, hk => by
    have hy : (strCells y).length = 64 := by rw [strCells_length, h y (List.mem_cons_self ..)]
    have hx' : (strCells x).length = 64 := by rw [strCells_length, hx]
    have ih := secCells_set xs (fun z hz => h z (List.mem_cons_of_mem _ hz)) k x hx (by simpa using hk)
    have e : secCells (y :: xs) = strCells y ++ secCells xs := rfl
    have e2 : secCells ((y :: xs).set (k + 1) x) = strCells y ++ secCells (xs.set k x) := rfl
    unfold put at ih ⊢
    have e3 : (k + 1) * 64 = (strCells y).length + k * 64 := by rw [hy]; omega
    rw [e2, e, ih, e3, Nat.add_assoc, List.take_length_add_append, List.drop_length_add_append]
    simp only [List.append_assoc]
theorem secCells_zero (n : Nat) : secCells (List.replicate n (zeroS 64)) = List.replicate (n * 64) (.int .u8 0) := by
  induction n with
  | zero => rfl
  | succ n ih =>
    have e : secCells (List.replicate (n + 1) (zeroS 64)) = strCells (zeroS 64) ++ secCells (List.replicate n (zeroS 64)) := rfl
    rw [e, ih, zeroS_cells, List.replicate_append_replicate]
    congr 1
    omega
/-- A sector of zeros. -/
def zSc : Array Value := Array.replicate 64 (.int .u8 0)
theorem zSc_list : zSc.toList = strCells (zeroS 64) := by rw [zeroS_cells]; exact Array.toList_replicate ..
theorem made_secs (n : Nat) : madeCells zSc (n * 64) = (secCells (List.replicate n (zeroS 64))).toArray := by
  rw [secCells_zero]
  apply Array.ext
  · simp [madeCells]
  · intro j h1 h2
    have hz : ∀ k, k < 64 → zSc[k]! = .int .u8 0 := by
      intro k hk
      have hk' : k < zSc.size := by simpa [zSc] using hk
      rw [getElem!_pos zSc k hk']
      unfold zSc
      exact Array.getElem_replicate ..
    have hs : zSc.size = 64 := by decide
    simp [madeCells, hs]
    exact hz _ (Nat.mod_lt _ (by decide))
theorem Tryz.infoSec : (Tryz.prog.info? 112).map (fun i => (i.zero, i.size, i.bytes)) = some (some (.agg zSc), 64, 64) := by kernel_rfl
theorem secSize (s : ByteArray) (hs : s.size = 64) : (Tryz.prog.info? 112).map (·.size) = some (strCells s).length := by
  rw [strCells_length, hs]
  kernel_rfl
theorem secSizeA (s : ByteArray) (hs : s.size = 64) : (Tryz.prog.info? 112).map (·.size) = some (strCells s).toArray.size := by
  rw [List.size_toArray]
  exact secSize s hs
theorem secOne (s : ByteArray) : (strCells s).toArray.all (·.oneCell') = true := all_oneCell_toArray (strCells_oneCell s)

section
variable {ops : Array Oper} {o : Oper} {a : Act} {w : World} {Q : Exit → Act → World → Prop}
/-- 'make([]sector, n)'. -/
theorem wpList_make_secs {rest : List Oper} (hgd : o.guard = none) (l c : Operand) (hop : o.op = Op.makeSlice 85 l c) (L : Int) (n : Nat) (hl : a.eval l = .int .i64 L) (hc : a.eval c = .int .i64 L) (hL : L = (n : Int)) (hn : n ≤ 1000000000)
    (h : wpList Tryz.prog ops Q rest (a.put o.dst (.slice (some ⟨w.heap.size, 0, none⟩) n n)) (w.alloc (.cells (secCells (List.replicate n (zeroS 64))).toArray 112))) : wpList Tryz.prog ops Q (o :: rest) a w := by
  subst hL
  obtain ⟨i, hi, hz, hsize, hby⟩ := info_parts Tryz.infoSec
  have hrun := run_make (P := Tryz.prog) w 85 112 i (.agg zSc) Tryz.underlying85 hi hz .i64 .i64 (n : Int) (n : Int) (by omega) (by omega) (by rw [hby]; omega) (by omega)
  have hzc : (Value.agg zSc).cells = zSc := rfl
  rw [hzc, Int.toNat_natCast, hsize, made_secs] at hrun
  refine wpList_run hgd _ _ ?_ h
  unfold execOp
  simp only [hop, hl, hc, Sem.run_bind, hrun, Result.andThen_ok, Sem.run_pure]
end

/-- What an unsynced sector is in the map. -/
def oldEnc (p : Nat × ByteArray) : Value × Value := (.int .i64 (p.1 : Int), .agg (strCells p.2).toArray)

/-- A disk in memory: its own block d, its sectors' r, its map's b. -/
structure DiskAt (w : World) (d r b n : Nat) (D : Dk) : Prop where
  own : Holds w d 88 [.slice (some ⟨r, 0, none⟩) n n, .map (some b)]
  row : Holds w r 112 (secCells D.xs)
  map : MapS w b (D.old.map oldEnc)
  fine : D.fine n
  most : n ≤ 256
  dr : d ≠ r

theorem map_apart {w : World} {g b : Nat} {t : TypeId} {cs : List Value} {m : List (Value × Value)} (h : Holds w g t cs) (hm : MapS w b m) : g ≠ b := fun e => by
  obtain ⟨es, clock, hb, _⟩ := hm
  unfold Holds at h
  rw [e, hb] at h
  cases h

section
variable {w w' : World} {d r b n : Nat} {D : Dk}
theorem DiskAt.db (h : DiskAt w d r b n D) : d ≠ b := map_apart h.own h.map
theorem DiskAt.rb (h : DiskAt w d r b n D) : r ≠ b := map_apart h.row h.map
theorem DiskAt.lt (h : DiskAt w d r b n D) : d < w.heap.size ∧ r < w.heap.size ∧ b < w.heap.size := ⟨h.own.lt, h.row.lt, h.map.lt⟩
theorem DiskAt.below {B : Nat} (h : DiskAt w d r b n D) (hb : Below B w w') (h1 : d < B ∧ r < B ∧ b < B) : DiskAt w' d r b n D := ⟨h.own.below hb h1.1, h.row.below hb h1.2.1, h.map.below hb h1.2.2, h.fine, h.most, h.dr⟩
theorem DiskAt.on (h : DiskAt w d r b n D) (hb : Below w.heap.size w w') : DiskAt w' d r b n D := h.below hb h.lt
theorem DiskAt.far {W : World} (h : DiskAt w d r b n D) {g o : Nat} {vs : List Value} (h1 : d ≠ g ∧ r ≠ g ∧ b ≠ g) (e : w.setCells g o vs = W) : DiskAt W d r b n D := by
  subst e
  exact ⟨h.own.fars g o vs h1.1, h.row.fars g o vs h1.2.1, h.map.fars g o vs h1.2.2, h.fine, h.most, h.dr⟩
/-- Another call turned other blocks. -/
theorem DiskAt.turned {g : Nat} {q : Option Nat} (h : DiskAt w d r b n D) (ht : Turns w w' g q) (h1 : d ≠ g ∧ r ≠ g ∧ b ≠ g) (h2 : some d ≠ q ∧ some r ≠ q ∧ some b ≠ q) : DiskAt w' d r b n D :=
  ⟨ht.holds h.own h1.1 h2.1, ht.holds h.row h1.2.1 h2.2.1, h.map.block (ht.block b h.map.lt h1.2.2 h2.2.2), h.fine, h.most, h.dr⟩

theorem secKeyed : Keyed Tryz.prog 3 := Maps.int_keyed Tryz.underlying3
theorem secKey (k : Nat) (hk : k ≤ 256) : keyOf Tryz.prog 3 (.int .i64 (k : Int)) = some (.int .i64 (k : Int)) := Maps.keyOf_int_mk Tryz.underlying3 (by
  have h0 : IntKind.i64.min = -9223372036854775808 := by decide
  have h1 : IntKind.i64.max = 9223372036854775807 := by decide
  simp only [Lit.wf, h0, h1, Bool.and_eq_true, decide_eq_true_eq]
  omega)
theorem secZero (w : World) : (zeroValue 112).run Tryz.prog w = .ok (.agg zSc) w := by kernel_rfl
theorem oldKeysOk {m : Olds} (hm : OldsOk n m) (hn : n ≤ 256) : ∀ p ∈ m.map oldEnc, ∃ l, keyOf Tryz.prog 3 p.1 = some l := fun p hp => by
  obtain ⟨q, hq, rfl⟩ := List.mem_map.1 hp
  exact ⟨_, secKey q.1 (by have := hm.lt q hq; omega)⟩
theorem oldMiss {m : Olds} {k : Nat} : mapGet (m.map oldEnc) (.int .i64 (k : Int)) none ↔ oldGet m k = none := by
  rw [oldGet_none]
  constructor
  · intro h p hp e
    exact h (oldEnc p) (List.mem_map.2 ⟨p, hp, rfl⟩) (by unfold oldEnc; rw [e])
  · intro h p hp e
    obtain ⟨q, hq, rfl⟩ := List.mem_map.1 hp
    unfold oldEnc at e
    injection e with _ e
    exact h q hq (by omega)
theorem oldGet_of {m : Olds} (hm : OldsOk n m) {p : Nat × ByteArray} (hp : p ∈ m) : oldGet m p.1 = some p.2 := by
  have hnd := hm.nd
  clear hm
  induction m with
  | nil => cases hp
  | cons q m ih =>
    rw [List.map_cons, List.nodup_cons] at hnd
    unfold oldGet
    rw [List.find?_cons]
    rcases List.mem_cons.1 hp with rfl | h
    · simp
    · have : (q.1 == p.1) = false := beq_eq_false_iff_ne.2 fun e => hnd.1 (by rw [e]; exact List.mem_map.2 ⟨p, h, rfl⟩)
      rw [this]
      exact ih h hnd.2
theorem oldHit {m : Olds} (hm : OldsOk n m) {k : Nat} {v : Value} (h : mapGet (m.map oldEnc) (.int .i64 (k : Int)) (some v)) : ∃ s, oldGet m k = some s ∧ v = .agg (strCells s).toArray := by
  obtain ⟨p, hp, h1, h2⟩ := h
  obtain ⟨q, hq, rfl⟩ := List.mem_map.1 hp
  unfold oldEnc at h1 h2
  injection h1 with _ h1
  have e : q.1 = k := by omega
  exact ⟨q.2, by rw [← e]; exact oldGet_of hm hq, h2.symm⟩
/-- 'm[k]', 'v, ok := m[k]'. -/
theorem DiskAt.look (h : DiskAt w d r b n D) {k : Nat} (hk : k < n) (c : Bool) :
    (Instr.lookup 86 (.map (some b)) (.int .i64 (k : Int)) c).run Tryz.prog w = .ok (if c then .tuple #[.agg (strCells ((oldGet D.old k).getD (zeroS 64))).toArray, .bool (dirt D.old k)] else .agg (strCells ((oldGet D.old k).getD (zeroS 64))).toArray) w := by
  have hl := h.map.at_.look (P := Tryz.prog) c secKeyed (oldKeysOk h.fine.ok h.most) Tryz.underlying86 (secZero w) (secKey k (by have := h.most; omega))
  unfold dirt
  rcases hl with ⟨h1, h2⟩ | ⟨v, h1, h2⟩
  · rw [oldMiss.1 h2, h1, Option.getD_none, Option.isSome_none, ← zSc_list, Array.toArray_toList]
  · obtain ⟨s, hs, rfl⟩ := oldHit h.fine.ok h2
    rw [hs, h1, Option.getD_some, Option.isSome_some]
/-- The sector at k is held for a crash. -/
theorem DiskAt.hold (h : DiskAt w d r b n D) {k : Nat} (hk : k < n) (hd : dirt D.old k = false) :
    ∃ w', (Instr.mapUpdate 86 (.map (some b)) (.int .i64 (k : Int)) (.agg (strCells (D.xs.getD k ⟨#[]⟩)).toArray)).run Tryz.prog w = .ok () w' ∧ DiskAt w' d r b n ⟨D.xs, D.old ++ [(k, D.xs.getD k ⟨#[]⟩)]⟩ ∧ Turns w w' r (some b) := by
  obtain ⟨w', h1, h2, h3, h4, h5⟩ := h.map.put (P := Tryz.prog) secKeyed (oldKeysOk h.fine.ok h.most) Tryz.underlying86 (secKey k (by have := h.most; omega)) (oldMiss.2 (dirt_no.1 hd)) (.agg (strCells (D.xs.getD k ⟨#[]⟩)).toArray)
  refine ⟨w', h1, ⟨(h4 d h.db).trans h.own, (h4 r h.rb).trans h.row, ?_, ⟨h.fine.len, h.fine.secs, h.fine.ok.add hk (h.fine.get hk) (dirt_no.1 hd)⟩, h.most, h.dr⟩, Turns.of_grown h5 r⟩
  rw [List.map_append]
  exact h2
theorem DiskAt.wipe (h : DiskAt w d r b n D) (ty : TypeId) :
    ∃ w', (Builtin.clear_ #[86] ty #[.map (some b)]).run Tryz.prog w = .ok (.tuple #[]) w' ∧ DiskAt w' d r b n D.sync ∧ Turns w w' r (some b) := by
  obtain ⟨w', h1, h2, h3, h4, h5⟩ := h.map.clear (P := Tryz.prog) Tryz.underlying86 ty
  exact ⟨w', h1, ⟨(h4 d h.db).trans h.own, (h4 r h.rb).trans h.row, h2, h.fine.sync, h.most, h.dr⟩, Turns.of_grown h5 r⟩
theorem DiskAt.len (h : DiskAt w d r b n D) (ty : TypeId) : (Builtin.len_ #[86] ty #[.map (some b)]).run Tryz.prog w = .ok (.int .i64 (D.old.length : Int)) w := by
  have := h.map.at_.len (P := Tryz.prog) Tryz.underlying86 ty
  rwa [List.length_map] at this
/-- A sector's cells. -/
theorem DiskAt.sec (h : DiskAt w d r b n D) {k : Nat} (hk : k < n) : ∀ j v, (strCells (D.xs.getD k ⟨#[]⟩))[j]? = some v → w.cell? ((⟨r, k * 64, none⟩ : Addr).add j) = some v := fun j v hv => by
  have hj : j < 64 := by
    have := (List.getElem?_eq_some_iff.1 hv).1
    rw [strCells_length, h.fine.get hk] at this
    exact this
  have hx : D.xs[k]? = some (D.xs.getD k ⟨#[]⟩) := by
    rw [List.getD_eq_getElem?_getD, List.getElem?_eq_getElem (by rw [h.fine.len]; exact hk)]
    rfl
  rw [Addr.add_mid, h.row.cell, secCells_at D.xs h.fine.secs k _ hx j hj]
  exact hv
/-- A sector is written. -/
theorem DiskAt.store (h : DiskAt w d r b n D) {k : Nat} (hk : k < n) {s : ByteArray} (hs : s.size = 64) {W : World} (e : w.setCells r (k * 64) (strCells s) = W) : DiskAt W d r b n ⟨D.xs.set k s, D.old⟩ ∧ Turns w W r (some b) := by
  have hkl : k < D.xs.length := by rw [h.fine.len]; exact hk
  have hp := h.row.put (k * 64) (strCells s) (by rw [secCells_length _ h.fine.secs, strCells_length, hs]; omega)
  rw [e, ← secCells_set D.xs h.fine.secs k s hs hkl] at hp
  refine ⟨⟨holds_fars e h.own h.dr, hp, ?_, ⟨by rw [List.length_set]; exact h.fine.len, ?_, h.fine.ok⟩, h.most, h.dr⟩, ?_⟩
  · subst e
    exact h.map.fars r _ _ (fun e => h.rb e.symm)
  · intro x hx
    rcases List.mem_or_eq_of_mem_set hx with h1 | h1
    · exact h.fine.secs x h1
    · rw [h1]; exact hs
  · subst e
    have := only_setCells (World.grownBy.refl w (some r)) (k * 64) (strCells s)
    exact Turns.of_only this _
end

end Go.Proofs.YtmgaegaibglnhaaGreat
namespace Go.Proofs.YtmgaegaibglnhaaGreat
open Go.RowKit
open Go.Lib (strCells strCells_length strCells_oneCell)

section
variable {P : Program} {ops : Array Oper} {o : Oper} {a : Act} {w : World} {Q : Exit → Act → World → Prop}
/-- 'clear(m)', as it runs. -/
theorem wpList_wipe {rest : List Oper} (hgd : o.guard = none) (x : Operand) (t : TypeId) (ho : o.op = .call { callee := .builtin .clear, args := #[x], argTypes := #[t] }) (M : Value) (hx : a.eval x = M) (w' : World)
    (hr : (Builtin.clear_ #[t] o.type #[M]).run P w = .ok (.tuple #[]) w') (h : wpList P ops Q rest (a.put o.dst (.tuple #[])) w') : wpList P ops Q (o :: rest) a w :=
  wpList_plain hgd fun K hK => by
    unfold Oper.wp execOp
    simp only [ho, resolve, invoke, builtin, Sem.run_bind, Sem.run_pure, Result.andThen_ok, List.map_toArray, List.map_cons, List.map_nil, hx, hr]
    exact hK _ _ h
end

set_option maxRecDepth 100000 in
theorem dkNew_no (n : Int) (h : ¬ (1 ≤ n ∧ n ≤ 256)) (w : World) : Calls Tryz.prog 9 #[.int .i64 n] w fun e w' => e = .returned (.tuple #[.pointer none, .int .i64 700]) ∧ w' = w := by
  by_cases h1 : n < 1
  · go_enter Tryz.func9, Tryz.ntmps9
    go_wp2
    go_ret2
    exact ⟨rfl, rfl⟩
  · have h2 : 256 < n := by omega
    go_enter Tryz.func9, Tryz.ntmps9
    go_wp2
    go_ret2
    exact ⟨rfl, rfl⟩
set_option maxRecDepth 100000 in
theorem dkNew_yes (n : Nat) (h1 : 1 ≤ n) (h2 : n ≤ 256) (w : World) : Calls Tryz.prog 9 #[.int .i64 (n : Int)] w fun e w' => e = .returned (.tuple #[.pointer (some ⟨w.heap.size + 2, 0, none⟩), .int .i64 0]) ∧ DiskAt w' (w.heap.size + 2) w.heap.size (w.heap.size + 1) n (Dk.new n) ∧ Below w.heap.size w w' := by
  have hmm := @run_makeMap Tryz.prog
  have h3 : ¬ (n : Int) < 1 := by omega
  have h4 : ¬ (256 : Int) < (n : Int) := by omega
  obtain ⟨cs, hcs⟩ : ∃ cs, (secCells (List.replicate n (zeroS 64))).toArray = cs := ⟨_, rfl⟩
  have hs : (w.alloc (.cells cs 112)).heap.size = w.heap.size + 1 := by simp
  have hs2 : ((w.alloc (.cells cs 112)).alloc (.map #[] 0)).heap.size = w.heap.size + 2 := by simp
  have hR := Holds.new w 112 cs
  have hM := MapS.new (w.alloc (.cells cs 112))
  rw [hs] at hM
  have hH := Holds.new ((w.alloc (.cells cs 112)).alloc (.map #[] 0)) 88 #[.slice (some ⟨w.heap.size, 0, none⟩) n n, .map (some (w.heap.size + 1))]
  rw [hs2] at hH
  have hA := hid (show DiskAt (((w.alloc (.cells cs 112)).alloc (.map #[] 0)).alloc (.cells #[.slice (some ⟨w.heap.size, 0, none⟩) n n, .map (some (w.heap.size + 1))] 88)) (w.heap.size + 2) w.heap.size (w.heap.size + 1) n (Dk.new n) from
    ⟨hH, by have := (hR.alloc (.map #[] 0)).alloc (.cells #[.slice (some ⟨w.heap.size, 0, none⟩) n n, .map (some (w.heap.size + 1))] 88); rw [← hcs] at this ⊢; exact this, hM.alloc _, Dk.fine.new n, h2, by omega⟩)
  have hB := hid (show Below w.heap.size w (((w.alloc (.cells cs 112)).alloc (.map #[] 0)).alloc (.cells #[.slice (some ⟨w.heap.size, 0, none⟩) n n, .map (some (w.heap.size + 1))] 88)) from (((Below.refl _ _).alloc (Nat.le_refl _) _).alloc (by simp) _).alloc (by simp; omega) _)
  have hcs' := hid hcs
  clear hM hH hs hR hs2 hcs
  go_enter Tryz.func9, Tryz.ntmps9
  go_wp2_with (first
    | ((with_reducible refine at_slot (some 11) ?_); refine wpList_make_secs rfl (.tmp 10) (.tmp 10) rfl (n : Int) n rfl rfl rfl (by omega) ?_; rw [hcs'.out])
    | fail)
  go_ret2
  exact ⟨by simp, hA.out, hB.out⟩

set_option maxRecDepth 100000 in
theorem dkHas (b : Bool) (at_ : Int) (d r bb n : Nat) (D : Dk) (h : b = decide (0 ≤ at_ ∧ at_ < (n : Int))) (w : World) (hD : DiskAt w d r bb n D) : Calls Tryz.prog 56 #[.pointer (some ⟨d, 0, none⟩), .int .i64 at_] w fun e w' => e = .returned (.bool b) ∧ w = w' := by
  have c0 := hD.own.cK 0 _ rfl
  clear hD
  by_cases h1 : 0 ≤ at_
  · by_cases h2 : at_ < (n : Int)
    · rw [decide_eq_true ⟨h1, h2⟩] at h
      subst h
      go_enter Tryz.func56, Tryz.ntmps56
      go_wp2
      go_ret
      exact ⟨rfl, rfl⟩
    · rw [decide_eq_false (fun e => h2 e.2)] at h
      subst h
      have h3 : (n : Int) ≤ at_ := by omega
      go_enter Tryz.func56, Tryz.ntmps56
      go_wp2
      go_ret
      exact ⟨rfl, rfl⟩
  · rw [decide_eq_false (fun e => h1 e.1)] at h
    subst h
    go_enter Tryz.func56, Tryz.ntmps56
    go_wp2
    go_ret
    exact ⟨rfl, rfl⟩
set_option maxRecDepth 100000 in
theorem dkSectors_any (d r b n : Nat) (D : Dk) (w : World) (hD : DiskAt w d r b n D) : Calls Tryz.prog 48 #[.pointer (some ⟨d, 0, none⟩)] w fun e w' => e = .returned (.int .i64 (n : Int)) ∧ w = w' := by
  have c0 := hD.own.cK 0 _ rfl
  clear hD
  go_enter Tryz.func48, Tryz.ntmps48
  go_wp2
  go_ret
  exact ⟨rfl, rfl⟩
set_option maxRecDepth 100000 in
theorem dkSync_any (d r b n : Nat) (D : Dk) (w : World) (hD : DiskAt w d r b n D) : Calls Tryz.prog 53 #[.pointer (some ⟨d, 0, none⟩)] w fun e w' => e = .returned (.int .i64 0) ∧ DiskAt w' d r b n D.sync ∧ Turns w w' r (some b) := by
  have c1 := hD.own.cK 1 _ rfl
  have hcl := hid (fun ty => hD.wipe ty)
  clear hD
  go_enter Tryz.func53, Tryz.ntmps53
  go_wp2_with (first
    | ((with_reducible refine at_slot none ?_); obtain ⟨W1, hr, hA, hT⟩ := hcl.out _; refine wpList_wipe rfl (.tmp 8) _ rfl (.map (some b)) rfl W1 (by exact hr) ?_; have hA := hid hA; have hT := hid hT; clear hr)
    | fail)
  go_ret
  exact ⟨rfl, hA.out, hT.out⟩
set_option maxRecDepth 100000 in
theorem dkRead_no (at_ : Int) (d r b n : Nat) (D : Dk) (h : ¬ (0 ≤ at_ ∧ at_ < (n : Int))) (w : World) (hD : DiskAt w d r b n D) : Calls Tryz.prog 26 #[.pointer (some ⟨d, 0, none⟩), .int .i64 at_] w fun e w' => e = .returned (.tuple #[.string ⟨#[]⟩, .int .i64 700]) ∧ w = w' := by
  have hh := dkHas false at_ d r b n D (decide_eq_false h).symm w hD
  clear hD h
  go_enter Tryz.func26, Tryz.ntmps26
  go_wp2_with (first
    | (go_at_call 56; refine hh.mono ?_; rintro e w' ⟨rfl, rfl⟩)
    | fail)
  go_ret2
  exact ⟨rfl, rfl⟩
set_option maxRecDepth 100000 in
theorem dkRead_yes (k : Nat) (d r b n : Nat) (D : Dk) (h : k < n) (w : World) (hD : DiskAt w d r b n D) : Calls Tryz.prog 26 #[.pointer (some ⟨d, 0, none⟩), .int .i64 (k : Int)] w fun e w' => e = .returned (.tuple #[.string (D.xs.getD k ⟨#[]⟩), .int .i64 0]) ∧ w = w' := by
  have hh := dkHas true (k : Int) d r b n D (decide_eq_true ⟨by omega, by omega⟩).symm w hD
  have c0 := hD.own.cK 0 _ rfl
  have h2 : (k : Int) < (n : Int) := by omega
  have hs := hD.sec h
  have h64 := hD.fine.get h
  obtain ⟨s, hsd⟩ : ∃ s, D.xs.getD k ⟨#[]⟩ = s := ⟨_, rfl⟩
  rw [hsd] at hs h64 ⊢
  have hcv := hid (show (convert 82 9 (.slice (some ⟨r, k * 64, none⟩) 64 64)).run Tryz.prog w = .ok (.string s) w from by
    have := run_convert_bytes_back (P := Tryz.prog) w 82 9 5 ⟨r, k * 64, none⟩ 64 s.data.toList Tryz.underlying82 Tryz.underlying5 Tryz.underlying9 (fun j hj => hs j _ (by unfold strCells; rw [List.getElem?_map, List.getElem?_eq_getElem hj]; rfl))
    rw [data_length, h64] at this
    exact this)
  clear hD h hs h64 hsd
  go_enter Tryz.func26, Tryz.ntmps26
  go_wp2_with (first
    | (go_at_call 56; refine hh.mono ?_; rintro e w' ⟨rfl, rfl⟩)
    | ((with_reducible refine at_slot (some 19) ?_); refine wpList_convert rfl 82 9 (.tmp 18) rfl (.slice (some ⟨r, k * 64, none⟩) 64 64) (.string s) w rfl (by exact hcv.out) ?_)
    | fail)
  go_ret2
  exact ⟨rfl, rfl⟩

end Go.Proofs.YtmgaegaibglnhaaGreat
namespace Go.Proofs.YtmgaegaibglnhaaGreat
open Go.RowKit
open Go.Lib (strCells strCells_length strCells_oneCell)

theorem bup {a b c : World} (h : Below b.heap.size b c) (k : Below a.heap.size a b) : Below a.heap.size a c := k.trans (h.mono k.size)
theorem tr_up {w a b : World} {g : Nat} {r : Option Nat} (hb : Below a.heap.size a b) (h : Turns w a g r) : Turns w b g r := h.trans (.inl rfl) (Turns.of_below hb _ _)
theorem tr_on {w a b : World} {g : Nat} {r : Option Nat} (h : Turns w a g r) (k : Turns a b g r) : Turns w b g r := h.trans (.inl rfl) k

theorem below_store {a w W : World} {B b o : Nat} {vs : List Value} (h : Below B a w) (hb : B ≤ b) (e : w.setCells b o vs = W) : Below B a W := by
  subst e
  exact below_setCells h b o vs hb
/-- From the head of block g on stand a text's bytes. -/
def BytesAt (w : World) (g : Nat) (s : ByteArray) : Prop := g < w.heap.size ∧ ∀ j u, (strCells s)[j]? = some u → w.cell? ((⟨g, 0, none⟩ : Addr).add j) = some u
theorem BytesAt.on {w w' : World} {g : Nat} {s : ByteArray} (h : BytesAt w g s) (hb : Below w.heap.size w w') : BytesAt w' g s :=
  ⟨Nat.lt_of_lt_of_le h.1 hb.size, fun j u hu => (hb.cell (by rw [add_block]; exact h.1)).trans (h.2 j u hu)⟩
/-- '[]byte(s)'. -/
theorem run_bytes_at {P : Program} (w : World) (src dst e : TypeId) (s : ByteArray) (hs : P.underlying src = some .string) (hd : P.underlying dst = some (.slice e)) (he : P.underlying e = some (.int .u8)) :
    ∃ c w', (convert src dst (.string s)).run P w = .ok (.slice (some ⟨w.heap.size, 0, none⟩) s.size c) w' ∧ BytesAt w' w.heap.size s ∧ Below w.heap.size w w' := by
  refine ⟨_, _, run_bytes_of_string (P := P) w src dst e s hs hd he, ⟨by simp, fun j u hu => ?_⟩, ((Below.refl _ _).drew).alloc (Nat.le_refl _) _⟩
  have hadd : (⟨w.heap.size, 0, none⟩ : Addr).add j = ⟨w.heap.size, j, none⟩ := by unfold Addr.add; split <;> simp_all
  have h2 : (bytesRow s (grownCap w s.size 0 e)).toList = strCells s ++ List.replicate (grownCap w s.size 0 e - s.size) (.int .u8 0) := by
    unfold bytesRow strCells
    simp
  rw [hadd, cell_of_row _ w.heap.size j _ e _ (heap_alloc_new w.drew _), ← Array.getElem?_toList, h2, List.getElem?_append_left (List.getElem?_eq_some_iff.1 hu).1]
  exact hu
theorem wp_conv {P : Program} {o : Oper} {a : Act} {w : World} {K : Act → World → Prop} {Q : Exit → Act → World → Prop} (src dst : TypeId) (x : Operand) (ho : o.op = .convert src dst x) (v u : Value) (w' : World) (hx : a.eval x = v) (hrun : (convert src dst v).run P w = .ok u w')
    (h : K (a.put o.dst u) w') : o.wp P a w K Q :=
  wp_run' u w' (by unfold execOp; simp only [ho, hx, Sem.run_bind, hrun, Result.andThen_ok, Sem.run_pure]) h

theorem wp_load_any {P : Program} {o : Oper} {a : Act} {w : World} {K : Act → World → Prop} {Q : Exit → Act → World → Prop} (ty : TypeId) (x : Operand) (ho : o.op = .load ty x) (p : Addr) (hx : a.eval x = .pointer (some p)) (cs : List Value) (d : TypeDesc)
    (hc : ∀ j v, cs[j]? = some v → w.cell? (p.add j) = some v) (hu : P.underlying ty = some d) (hd : d.isRow = true) (hi : (P.info? ty).map (·.size) = some cs.length) (h : K (a.put o.dst (.agg cs.toArray)) w) : o.wp P a w K Q :=
  wp_run' _ _ (by
    unfold execOp
    simp only [ho, hx, Instr.loadAt, Instr.sureAddr, Sem.run_bind, Sem.run_pure, Result.andThen_ok, run_loadVar_any p ty cs d hc hu hd hi]) h

set_option maxRecDepth 100000 in
theorem dkWrite_no (at_ : Int) (s : ByteArray) (d r b n : Nat) (D : Dk) (h : ¬ (0 ≤ at_ ∧ at_ < (n : Int))) (w : World) (hD : DiskAt w d r b n D) : Calls Tryz.prog 20 #[.pointer (some ⟨d, 0, none⟩), .int .i64 at_, .string s] w fun e w' => e = .returned (.int .i64 700) ∧ w = w' := by
  have hh := dkHas false at_ d r b n D (decide_eq_false h).symm w hD
  clear hD h
  go_enter Tryz.func20, Tryz.ntmps20
  go_wp2_with (first
    | (go_at_call 56; refine hh.mono ?_; rintro e w' ⟨rfl, rfl⟩)
    | fail)
  go_ret
  exact ⟨rfl, rfl⟩
set_option maxRecDepth 100000 in
theorem dkWrite_not (k : Nat) (s : ByteArray) (hs : s.size ≠ 64) (d r b n : Nat) (D : Dk) (h : k < n) (w : World) (hD : DiskAt w d r b n D) : Calls Tryz.prog 20 #[.pointer (some ⟨d, 0, none⟩), .int .i64 (k : Int), .string s] w fun e w' => e = .returned (.int .i64 700) ∧ w = w' := by
  have hh := dkHas true (k : Int) d r b n D (decide_eq_true ⟨by omega, by omega⟩).symm w hD
  have h3 : ((s.size : Int) == 64) = false := beq_eq_false_iff_ne.2 (by omega)
  have h4 : ((s.size : Int) != 64) = true := by rw [bne, h3]; rfl
  clear hD h hs
  go_enter Tryz.func20, Tryz.ntmps20
  go_wp2_with (first
    | (go_at_call 56; refine hh.mono ?_; rintro e w' ⟨rfl, rfl⟩)
    | fail)
  go_ret
  exact ⟨rfl, rfl⟩

set_option maxRecDepth 100000 in
set_option maxHeartbeats 1000000 in
theorem dkWrite_yes (k : Nat) (s : ByteArray) (hs : s.size = 64) (d r b n : Nat) (D : Dk) (h : k < n) (w : World) (hD : DiskAt w d r b n D) : Calls Tryz.prog 20 #[.pointer (some ⟨d, 0, none⟩), .int .i64 (k : Int), .string s] w fun e w' => e = .returned (.int .i64 0) ∧ DiskAt w' d r b n (D.write k s) ∧ Turns w w' r (some b) := by
  have hh := hid (dkHas true (k : Int) d r b n D (decide_eq_true ⟨by omega, by omega⟩).symm w hD)
  have h2 : (k : Int) < (n : Int) := by omega
  have s3 : (0 : Int) ≤ (k : Int) := by omega
  have hs' : (s.size : Int) = 64 := by omega
  have hsz := hid hs
  have hkn := hid h
  obtain ⟨x, hx⟩ : ∃ x, D.xs.getD k ⟨#[]⟩ = x := ⟨_, rfl⟩
  have hx64 := hid (show x.size = 64 from by rw [← hx]; exact hD.fine.get h)
  have hx' := hid hx
  obtain ⟨y, hy⟩ : ∃ y, (oldGet D.old k).getD (zeroS 64) = y := ⟨_, rfl⟩
  have hy64 := hid (show y.size = 64 from by
    rw [← hy]
    cases hg : oldGet D.old k with
    | none => exact zeroS_size 64
    | some o => exact hD.fine.ok.len _ (oldGet_mem hg))
  have hA0 := hid hD
  have hT0 := hid (Turns.refl w r (some b))
  have hlk := hD.look h true
  simp only [if_true] at hlk
  rw [hy] at hlk
  have c1 := hD.own.cK 1 _ rfl
  have hsec := hid (fun V old (h2 : DiskAt V d r b n ⟨D.xs, old⟩) => show ∀ j v, (strCells x)[j]? = some v → V.cell? ((⟨r, k * 64, none⟩ : Addr).add j) = some v from by rw [← hx]; exact h2.sec h)
  obtain ⟨W0, hW0⟩ : ∃ V, V = w := ⟨_, rfl⟩
  clear hD hy hx h hs
  cases hd : dirt D.old k with
  | true =>
    have hd' := hid hd
    rw [hd] at hlk
    clear hd
    rw [← hW0] at hA0 hT0 hlk c1 hh ⊢
    clear hW0
    go_enter Tryz.func20, Tryz.ntmps20
    go_wp2_with (first
      | (go_at_call 56; refine hh.out.mono ?_; rintro e w' ⟨rfl, rfl⟩)
      | ((with_reducible refine at_slot (some 7) ?_); refine wpList_run rfl (.pointer (some ⟨W0.heap.size, 0, none⟩)) (W0.alloc (.cells zSc 112)) (by kernel_rfl) ?_)
      | ((with_reducible refine at_slot none ?_); refine wpList_store_mid rfl 112 (.tmp 7) (.tmp 27) rfl W0.heap.size 0 (strCells y).toArray rfl rfl (by exact (Holds.new W0 112 zSc).there 0 _ (by rw [List.size_toArray, strCells_length, hy64.out]; exact Nat.le_refl 64)) (by exact secSizeA y hy64.out) (by exact secOne y) ?_; generalize hW : World.setCells _ _ _ _ = W1; have hb := below_store ((Below.refl _ _).alloc (Nat.le_refl _) _) (Nat.le_refl _) hW; have hA1 := hid (hA0.out.on hb); have hT1 := hid (tr_up hb hT0.out); clear hb hW hA0 hT0 hlk c1)
      | fail)
    clear hh
    go_wp2_with fail
    have hg := hA1.out.lt
    obtain ⟨g, hg'⟩ : ∃ g, W1.drew.heap.size = g := ⟨_, rfl⟩
    have hgn := hid (show d < g ∧ r < g ∧ b < g from by rw [← hg']; exact hg)
    clear hg
    have hb : Below W1.heap.size W1 W1.drew := (Below.refl _ _).drew
    have hA2 := hid (hA1.out.on hb)
    have hT2 := hid (tr_up hb hT1.out)
    clear hb hA1 hT1
    refine wp_region_held_drew (S := fun V => (V.cell? ⟨d, 0, none⟩ = some (.slice (some ⟨r, 0, none⟩) n n))) (by kernel_rfl) (by exact hA2.out.own.cK 0 _ rfl) (fun hHeld => ?_)
    generalize W1.drew = W2 at *
    refine tkn 0 (.pointer (some ⟨d, 0, none⟩)) rfl (by kernel_rfl) (fun _ _ _ h => h) (yieldsIf_move _ rfl rfl rfl) hHeld ?_
    simp only [ly, Act.put]
    refine tkn 1 (.pointer (some ⟨d, 0, none⟩)) rfl (by kernel_rfl) (fun _ _ _ h => h) (.inl ⟨by kernel_rfl, fun w _ => by go_simp⟩) hHeld ?_
    simp only [ly, Act.put]
    refine tkn 2 (.pointer (some ⟨d, 0, none⟩)) rfl (by kernel_rfl) (fun _ _ _ h => h) (.inl ⟨by kernel_rfl, fun w _ => by go_simp⟩) hHeld ?_
    simp only [ly, Act.put]
    refine tkn 3 (.slice (some ⟨r, 0, none⟩) n n) rfl (by kernel_rfl) (fun _ _ _ h => h) (.inl ⟨by kernel_rfl, fun V hS => by have c0 := hS; go_simp⟩) hHeld ?_
    simp only [ly, Act.put]
    refine tkn 4 (.int .i64 (k : Int)) rfl (by kernel_rfl) (fun _ _ _ h => h) (yieldsIf_move _ rfl rfl rfl) hHeld ?_
    simp only [ly, Act.put]
    refine tkn 5 (.string s) rfl (by kernel_rfl) (fun _ _ _ h => h) (yieldsIf_move _ rfl rfl rfl) hHeld ?_
    simp only [ly, Act.put]
    refine wpAnyH_ready (rs := [6]) (by kernel_rfl) (by simp) (AllReadyH.cons rfl (fun K hK => ?_) AllReadyH.nil)
    have hK' := hid hK
    clear hK
    rw [if_pos (by kernel_rfl)]
    simp only [ly1, ly2, ly3]
    obtain ⟨c, W3, hr, hN, hb⟩ := run_bytes_at (P := Tryz.prog) W2 9 82 5 s Tryz.underlying9 Tryz.underlying82 Tryz.underlying5
    rw [hsz.out, hg'] at hr
    rw [hg'] at hN
    refine wp_conv 9 82 (.tmp 48) rfl (.string s) _ _ rfl (by exact hr) ?_
    clear hr hg'
    have hA3 := hid (hA2.out.on hb)
    have hT3 := hid (tr_up hb hT2.out)
    have hN3 := hid hN
    clear hb hA2 hT2 hN
    refine hK'.out _ _ (by exact hA3.out.own.cK 0 _ rfl) (fun hHeld => ?_)
    clear hK' K
    refine tkn 7 (.pointer (some ⟨g, 0, none⟩)) rfl (by kernel_rfl) (fun _ _ _ h => h) (.inl ⟨by kernel_rfl, fun w _ => by have ar := run_arrayAt (P := Tryz.prog) 112 5 (some ⟨g, 0, none⟩) 64 64 c (Nat.le_refl 64) Tryz.underlying112 w; go_simp⟩) hHeld ?_
    simp only [ly, Act.put]
    refine wpAnyH_ready (rs := [8]) (by kernel_rfl) (by simp) (AllReadyH.cons rfl (fun K hK => ?_) AllReadyH.nil)
    have hK' := hid hK
    clear hK
    rw [if_pos (by kernel_rfl)]
    simp only [ly1, ly2, ly3]
    refine wp_load_any 112 (.tmp 50) rfl ⟨g, 0, none⟩ rfl (strCells s) _ (by exact hN3.out.2) Tryz.underlying112 rfl (by exact secSize s hsz.out) ?_
    refine hK'.out _ _ (by exact hA3.out.own.cK 0 _ rfl) (fun hHeld => ?_)
    clear hK' K
    refine tkn 9 (.pointer (some ⟨r, k * 64, none⟩)) rfl (by kernel_rfl) (fun _ _ _ h => h) (.inl ⟨by kernel_rfl, fun w _ => by go_simp⟩) hHeld ?_
    simp only [ly, Act.put]
    refine wpAnyH_ready (rs := [10]) (by kernel_rfl) (by simp) (AllReadyH.cons rfl (fun K hK => ?_) AllReadyH.nil)
    have hK' := hid hK
    clear hK
    rw [if_pos (by kernel_rfl)]
    simp only [ly1, ly2, ly3]
    refine wp_store_mid _ _ _ rfl r (k * 64) (strCells s).toArray rfl rfl (by exact hA3.out.row.there _ _ (by rw [secCells_length _ hA3.out.fine.secs, List.size_toArray, strCells_length, hsz.out, hA3.out.fine.len]; have := hkn.out; omega)) (by exact secSizeA s hsz.out) (by exact secOne s) ?_
    generalize hXx : World.setCells _ _ _ _ = W4
    have hh := hA3.out.store hkn.out hsz.out hXx
    have hA4 := hid hh.1
    have hT4 := hid (tr_on hT3.out hh.2)
    clear hh hXx hA3 hT3 hN3
    refine hK'.out _ _ (by exact hA4.out.own.cK 0 _ rfl) (fun hHeld => ?_)
    clear hK' K
    refine wpAnyH_done (by kernel_rfl) ?_ _
    go_wp2_with fail
    go_ret
    have hA := hA4.out
    have hT := hT4.out
    refine ⟨rfl, ?_, hT⟩
    unfold Dk.write
    rw [hd'.out]
    exact hA
  | false =>
    have hd' := hid hd
    rw [hd] at hlk
    clear hd
    rw [← hW0] at hA0 hT0 hlk c1 hh ⊢
    clear hW0
    go_enter Tryz.func20, Tryz.ntmps20
    go_wp2_with (first
      | (go_at_call 56; refine hh.out.mono ?_; rintro e w' ⟨rfl, rfl⟩)
      | ((with_reducible refine at_slot (some 7) ?_); refine wpList_run rfl (.pointer (some ⟨W0.heap.size, 0, none⟩)) (W0.alloc (.cells zSc 112)) (by kernel_rfl) ?_)
      | ((with_reducible refine at_slot none ?_); refine wpList_store_mid rfl 112 (.tmp 7) (.tmp 27) rfl W0.heap.size 0 (strCells y).toArray rfl rfl (by exact (Holds.new W0 112 zSc).there 0 _ (by rw [List.size_toArray, strCells_length, hy64.out]; exact Nat.le_refl 64)) (by exact secSizeA y hy64.out) (by exact secOne y) ?_; generalize hW : World.setCells _ _ _ _ = W1; have hb := below_store ((Below.refl _ _).alloc (Nat.le_refl _) _) (Nat.le_refl _) hW; have hA1 := hid (hA0.out.on hb); have hT1 := hid (tr_up hb hT0.out); clear hb hW hA0 hT0 hlk c1)
      | fail)
    clear hh
    have hb : Below W1.heap.size W1 W1.drew := (Below.refl _ _).drew
    have hA2 := hid (hA1.out.on hb)
    have hT2 := hid (tr_up hb hT1.out)
    clear hb hA1 hT1
    refine wp_region_held_drew (S := fun V => (V.cell? ⟨d, 0, none⟩ = some (.slice (some ⟨r, 0, none⟩) n n) ∧ V.cell? ⟨d, 1, none⟩ = some (.map (some b))) ∧ ∀ j v, (strCells x)[j]? = some v → V.cell? ((⟨r, k * 64, none⟩ : Addr).add j) = some v) (by kernel_rfl) (by exact ⟨⟨hA2.out.own.cK 0 _ rfl, hA2.out.own.cK 1 _ rfl⟩, hsec.out _ _ hA2.out⟩) (fun hHeld => ?_)
    generalize W1.drew = W2 at *
    refine tkn 0 (.pointer (some ⟨d, 0, none⟩)) rfl (by kernel_rfl) (fun _ _ _ h => h) (yieldsIf_move _ rfl rfl rfl) hHeld ?_
    simp only [ly, Act.put]
    refine tkn 1 (.pointer (some ⟨d, 0, none⟩)) rfl (by kernel_rfl) (fun _ _ _ h => h) (.inl ⟨by kernel_rfl, fun w _ => by go_simp⟩) hHeld ?_
    simp only [ly, Act.put]
    refine tkn 2 (.pointer (some ⟨d, 1, none⟩)) rfl (by kernel_rfl) (fun _ _ _ h => h) (.inl ⟨by kernel_rfl, fun w _ => by go_simp⟩) hHeld ?_
    simp only [ly, Act.put]
    refine tkn 3 (.map (some b)) rfl (by kernel_rfl) (fun _ _ _ h => h) (.inl ⟨by kernel_rfl, fun V hS => by have c1 := hS.1.2; go_simp⟩) hHeld ?_
    simp only [ly, Act.put]
    refine tkn 4 (.int .i64 (k : Int)) rfl (by kernel_rfl) (fun _ _ _ h => h) (yieldsIf_move _ rfl rfl rfl) hHeld ?_
    simp only [ly, Act.put]
    refine tkn 5 (.pointer (some ⟨d, 0, none⟩)) rfl (by kernel_rfl) (fun _ _ _ h => h) (yieldsIf_move _ rfl rfl rfl) hHeld ?_
    simp only [ly, Act.put]
    refine tkn 6 (.pointer (some ⟨d, 0, none⟩)) rfl (by kernel_rfl) (fun _ _ _ h => h) (.inl ⟨by kernel_rfl, fun w _ => by go_simp⟩) hHeld ?_
    simp only [ly, Act.put]
    refine tkn 7 (.pointer (some ⟨d, 0, none⟩)) rfl (by kernel_rfl) (fun _ _ _ h => h) (.inl ⟨by kernel_rfl, fun w _ => by go_simp⟩) hHeld ?_
    simp only [ly, Act.put]
    refine tkn 8 (.slice (some ⟨r, 0, none⟩) n n) rfl (by kernel_rfl) (fun _ _ _ h => h) (.inl ⟨by kernel_rfl, fun V hS => by have c0 := hS.1.1; go_simp⟩) hHeld ?_
    simp only [ly, Act.put]
    refine tkn 9 (.int .i64 (k : Int)) rfl (by kernel_rfl) (fun _ _ _ h => h) (yieldsIf_move _ rfl rfl rfl) hHeld ?_
    simp only [ly, Act.put]
    refine tkn 10 (.pointer (some ⟨r, k * 64, none⟩)) rfl (by kernel_rfl) (fun _ _ _ h => h) (.inl ⟨by kernel_rfl, fun w _ => by go_simp⟩) hHeld ?_
    simp only [ly, Act.put]
    refine tkn 11 (.agg (strCells x).toArray) rfl (by kernel_rfl) (fun _ _ _ h => h) (yieldsIf_load_any (by kernel_rfl) _ _ rfl ⟨r, k * 64, none⟩ rfl (strCells x) _ (fun V hS => hS.2) Tryz.underlying112 rfl (by exact secSize x hx64.out)) hHeld ?_
    simp only [ly, Act.put]
    refine wpAnyH_ready (rs := [12]) (by kernel_rfl) (by simp) (AllReadyH.cons rfl (fun K hK => ?_) AllReadyH.nil)
    have hK' := hid hK
    clear hK
    rw [if_pos (by kernel_rfl)]
    simp only [ly1, ly2, ly3]
    obtain ⟨W3, hr, hA, hT⟩ := hA2.out.hold hkn.out hd'.out
    rw [hx'.out] at hr hA
    refine wp_mapPut (.tmp 34) (.tmp 35) (.tmp 42) _ rfl (.map (some b)) (.int .i64 (k : Int)) (.agg (strCells x).toArray) rfl rfl rfl (by exact hr) ?_
    have hA3 := hid hA
    have hT3 := hid (tr_on hT2.out hT)
    clear hr hA hT hA2 hT2
    refine hK'.out _ _ (by exact ⟨⟨hA3.out.own.cK 0 _ rfl, hA3.out.own.cK 1 _ rfl⟩, hsec.out _ _ hA3.out⟩) (fun hHeld => ?_)
    clear hK' K
    refine wpAnyH_done (by kernel_rfl) ?_ _
    go_wp2_with fail
    have hg := hA3.out.lt
    obtain ⟨g, hg'⟩ : ∃ g, W3.drew.heap.size = g := ⟨_, rfl⟩
    have hgn := hid (show d < g ∧ r < g ∧ b < g from by rw [← hg']; exact hg)
    clear hg
    have hb : Below W3.heap.size W3 W3.drew := (Below.refl _ _).drew
    have hA4 := hid (hA3.out.on hb)
    have hT4 := hid (tr_up hb hT3.out)
    clear hb hA3 hT3
    refine wp_region_held_drew (S := fun V => (V.cell? ⟨d, 0, none⟩ = some (.slice (some ⟨r, 0, none⟩) n n))) (by kernel_rfl) (by exact hA4.out.own.cK 0 _ rfl) (fun hHeld => ?_)
    generalize W3.drew = W4 at *
    refine tkn 0 (.pointer (some ⟨d, 0, none⟩)) rfl (by kernel_rfl) (fun _ _ _ h => h) (yieldsIf_move _ rfl rfl rfl) hHeld ?_
    simp only [ly, Act.put]
    refine tkn 1 (.pointer (some ⟨d, 0, none⟩)) rfl (by kernel_rfl) (fun _ _ _ h => h) (.inl ⟨by kernel_rfl, fun w _ => by go_simp⟩) hHeld ?_
    simp only [ly, Act.put]
    refine tkn 2 (.pointer (some ⟨d, 0, none⟩)) rfl (by kernel_rfl) (fun _ _ _ h => h) (.inl ⟨by kernel_rfl, fun w _ => by go_simp⟩) hHeld ?_
    simp only [ly, Act.put]
    refine tkn 3 (.slice (some ⟨r, 0, none⟩) n n) rfl (by kernel_rfl) (fun _ _ _ h => h) (.inl ⟨by kernel_rfl, fun V hS => by have c0 := hS; go_simp⟩) hHeld ?_
    simp only [ly, Act.put]
    refine tkn 4 (.int .i64 (k : Int)) rfl (by kernel_rfl) (fun _ _ _ h => h) (yieldsIf_move _ rfl rfl rfl) hHeld ?_
    simp only [ly, Act.put]
    refine tkn 5 (.string s) rfl (by kernel_rfl) (fun _ _ _ h => h) (yieldsIf_move _ rfl rfl rfl) hHeld ?_
    simp only [ly, Act.put]
    refine wpAnyH_ready (rs := [6]) (by kernel_rfl) (by simp) (AllReadyH.cons rfl (fun K hK => ?_) AllReadyH.nil)
    have hK' := hid hK
    clear hK
    rw [if_pos (by kernel_rfl)]
    simp only [ly1, ly2, ly3]
    obtain ⟨c, W5, hr, hN, hb⟩ := run_bytes_at (P := Tryz.prog) W4 9 82 5 s Tryz.underlying9 Tryz.underlying82 Tryz.underlying5
    rw [hsz.out, hg'] at hr
    rw [hg'] at hN
    refine wp_conv 9 82 (.tmp 48) rfl (.string s) _ _ rfl (by exact hr) ?_
    clear hr hg'
    have hA5 := hid (hA4.out.on hb)
    have hT5 := hid (tr_up hb hT4.out)
    have hN5 := hid hN
    clear hb hA4 hT4 hN
    refine hK'.out _ _ (by exact hA5.out.own.cK 0 _ rfl) (fun hHeld => ?_)
    clear hK' K
    refine tkn 7 (.pointer (some ⟨g, 0, none⟩)) rfl (by kernel_rfl) (fun _ _ _ h => h) (.inl ⟨by kernel_rfl, fun w _ => by have ar := run_arrayAt (P := Tryz.prog) 112 5 (some ⟨g, 0, none⟩) 64 64 c (Nat.le_refl 64) Tryz.underlying112 w; go_simp⟩) hHeld ?_
    simp only [ly, Act.put]
    refine wpAnyH_ready (rs := [8]) (by kernel_rfl) (by simp) (AllReadyH.cons rfl (fun K hK => ?_) AllReadyH.nil)
    have hK' := hid hK
    clear hK
    rw [if_pos (by kernel_rfl)]
    simp only [ly1, ly2, ly3]
    refine wp_load_any 112 (.tmp 50) rfl ⟨g, 0, none⟩ rfl (strCells s) _ (by exact hN5.out.2) Tryz.underlying112 rfl (by exact secSize s hsz.out) ?_
    refine hK'.out _ _ (by exact hA5.out.own.cK 0 _ rfl) (fun hHeld => ?_)
    clear hK' K
    refine tkn 9 (.pointer (some ⟨r, k * 64, none⟩)) rfl (by kernel_rfl) (fun _ _ _ h => h) (.inl ⟨by kernel_rfl, fun w _ => by go_simp⟩) hHeld ?_
    simp only [ly, Act.put]
    refine wpAnyH_ready (rs := [10]) (by kernel_rfl) (by simp) (AllReadyH.cons rfl (fun K hK => ?_) AllReadyH.nil)
    have hK' := hid hK
    clear hK
    rw [if_pos (by kernel_rfl)]
    simp only [ly1, ly2, ly3]
    refine wp_store_mid _ _ _ rfl r (k * 64) (strCells s).toArray rfl rfl (by exact hA5.out.row.there _ _ (by rw [secCells_length _ hA5.out.fine.secs, List.size_toArray, strCells_length, hsz.out, hA5.out.fine.len]; have := hkn.out; omega)) (by exact secSizeA s hsz.out) (by exact secOne s) ?_
    generalize hXx : World.setCells _ _ _ _ = W6
    have hh := hA5.out.store hkn.out hsz.out hXx
    have hA6 := hid hh.1
    have hT6 := hid (tr_on hT5.out hh.2)
    clear hh hXx hA5 hT5 hN5
    refine hK'.out _ _ (by exact hA6.out.own.cK 0 _ rfl) (fun hHeld => ?_)
    clear hK' K
    refine wpAnyH_done (by kernel_rfl) ?_ _
    go_wp2_with fail
    go_ret
    have hA := hA6.out
    have hT := hT6.out
    refine ⟨rfl, ?_, hT⟩
    unfold Dk.write
    rw [hd'.out, hx'.out]
    exact hA


end Go.Proofs.YtmgaegaibglnhaaGreat
namespace Go.Proofs.YtmgaegaibglnhaaGreat
open Go.Shelf
def Tryz.laysKeys_ren : Go.Shelf.Ren := ⟨fun | 7 => 55 | 10 => 107 | n => n, fun | 23 => 86 | 26 => 3 | 3 => 112 | 28 => 109 | 0 => 0 | 27 => 108 | 33 => 113 | 4 => 4 | n => n, fun | n => n⟩
theorem Tryz.laysKeys : Go.Proofs.SlLaysZI.n7 Tryz.prog Tryz.laysKeys_ren := {
  mixed := by kernel_rfl
  f7 := ⟨Tryz.f55.name, by decide, Tryz.func55.trans (congrArg some (by kernel_rfl))⟩
  f10 := ⟨Tryz.f107.name, by decide, Tryz.func107.trans (congrArg some (by kernel_rfl))⟩
  t0 := Tryz.underlying0
  a0 := Tryz.isAgg0
  z0 := Tryz.sizeOf0
  v0 := Tryz.zeroValue0
  t4 := Tryz.underlying4
  a4 := Tryz.isAgg4
  z4 := Tryz.sizeOf4
  v4 := Tryz.zeroValue4
  t23 := Tryz.underlying86
  a23 := Tryz.isAgg86
  z23 := Tryz.sizeOf86
  v23 := Tryz.zeroValue86
  t26 := Tryz.underlying3
  a26 := Tryz.isAgg3
  z26 := Tryz.sizeOf3
  v26 := Tryz.zeroValue3
  t27 := Tryz.underlying108
  a27 := Tryz.isAgg108
  z27 := Tryz.sizeOf108
  v27 := Tryz.zeroValue108
  t28 := Tryz.underlying109
  a28 := Tryz.isAgg109
  z28 := Tryz.sizeOf109
  v28 := Tryz.zeroValue109
  t33 := Tryz.underlying113
  a33 := Tryz.isAgg113
  z33 := Tryz.sizeOf113
  v33 := Tryz.zeroValue113 }
def Tryz.laysSorted_ren : Go.Shelf.Ren := ⟨fun | 6 => 54 | 8 => 105 | 9 => 106 | 11 => 164 | 13 => 166 | 12 => 165 | 23 => 221 | 24 => 222 | 14 => 212 | 15 => 213 | 16 => 214 | 17 => 215 | 18 => 216 | 19 => 217 | 20 => 218 | 21 => 219 | 22 => 220 | 25 => 252 | 26 => 253 | 27 => 254 | 28 => 255 | 29 => 256 | 30 => 257 | 31 => 263 | n => n, fun | 26 => 3 | 28 => 109 | 24 => 53 | 0 => 0 | 3 => 3 | 37 => 81 | 48 => 269 | 50 => 272 | 4 => 4 | 40 => 287 | 39 => 286 | 45 => 258 | 5 => 5 | 9 => 9 | 51 => 317 | 55 => 321 | 57 => 327 | 58 => 135 | 33 => 113 | n => n, fun | n => n⟩
theorem Tryz.laysSorted : Go.Proofs.SlLaysZI.n6 Tryz.prog Tryz.laysSorted_ren := {
  mixed := by kernel_rfl
  f6 := ⟨Tryz.f54.name, by decide, Tryz.func54.trans (congrArg some (by kernel_rfl))⟩
  f8 := ⟨Tryz.f105.name, by decide, Tryz.func105.trans (congrArg some (by kernel_rfl))⟩
  f11 := ⟨Tryz.f164.name, by decide, Tryz.func164.trans (congrArg some (by kernel_rfl))⟩
  t0 := Tryz.underlying0
  a0 := Tryz.isAgg0
  z0 := Tryz.sizeOf0
  v0 := Tryz.zeroValue0
  t24 := Tryz.underlying53
  a24 := Tryz.isAgg53
  z24 := Tryz.sizeOf53
  v24 := Tryz.zeroValue53
  t26 := Tryz.underlying3
  a26 := Tryz.isAgg3
  z26 := Tryz.sizeOf3
  v26 := Tryz.zeroValue3
  t28 := Tryz.underlying109
  a28 := Tryz.isAgg109
  z28 := Tryz.sizeOf109
  v28 := Tryz.zeroValue109
  i26 := by kernel_rfl }
def Tryz.laysSort_ren : Go.Shelf.Ren := ⟨fun | 5 => 106 | 8 => 166 | 7 => 165 | 19 => 221 | 20 => 222 | 10 => 212 | 11 => 213 | 12 => 214 | 13 => 215 | 14 => 216 | 15 => 217 | 16 => 218 | 17 => 219 | 18 => 220 | 30 => 252 | 31 => 253 | 32 => 254 | 33 => 255 | 34 => 256 | 35 => 257 | 40 => 263 | n => n, fun | 23 => 53 | 25 => 3 | 3 => 3 | 32 => 81 | 22 => 53 | 0 => 0 | 44 => 269 | 46 => 272 | 4 => 4 | 36 => 287 | 35 => 286 | 41 => 258 | 5 => 5 | 9 => 9 | 53 => 317 | 57 => 321 | 63 => 327 | 64 => 135 | n => n, fun | n => n⟩
theorem Tryz.laysSort : Go.Proofs.SlLaysM.n5 Tryz.prog Tryz.laysSort_ren := {
  mixed := by kernel_rfl
  f5 := ⟨Tryz.f106.name, by decide, Tryz.func106.trans (congrArg some (by kernel_rfl))⟩
  f7 := ⟨Tryz.f165.name, by decide, Tryz.func165.trans (congrArg some (by kernel_rfl))⟩
  f8 := Tryz.func166.trans (congrArg some (by kernel_rfl))
  f10 := ⟨Tryz.f212.name, by decide, Tryz.func212.trans (congrArg some (by kernel_rfl))⟩
  f11 := ⟨Tryz.f213.name, by decide, Tryz.func213.trans (congrArg some (by kernel_rfl))⟩
  f12 := ⟨Tryz.f214.name, by decide, Tryz.func214.trans (congrArg some (by kernel_rfl))⟩
  f13 := ⟨Tryz.f215.name, by decide, Tryz.func215.trans (congrArg some (by kernel_rfl))⟩
  f14 := ⟨Tryz.f216.name, by decide, Tryz.func216.trans (congrArg some (by kernel_rfl))⟩
  f15 := ⟨Tryz.f217.name, by decide, Tryz.func217.trans (congrArg some (by kernel_rfl))⟩
  f16 := ⟨Tryz.f218.name, by decide, Tryz.func218.trans (congrArg some (by kernel_rfl))⟩
  f17 := ⟨Tryz.f219.name, by decide, Tryz.func219.trans (congrArg some (by kernel_rfl))⟩
  f18 := ⟨Tryz.f220.name, by decide, Tryz.func220.trans (congrArg some (by kernel_rfl))⟩
  f19 := Tryz.func221.trans (congrArg some (by kernel_rfl))
  f20 := Tryz.func222.trans (congrArg some (by kernel_rfl))
  f30 := ⟨Tryz.f252.name, by decide, Tryz.func252.trans (congrArg some (by kernel_rfl))⟩
  f31 := Tryz.func253.trans (congrArg some (by kernel_rfl))
  f32 := Tryz.func254.trans (congrArg some (by kernel_rfl))
  f33 := ⟨Tryz.f255.name, by decide, Tryz.func255.trans (congrArg some (by kernel_rfl))⟩
  f34 := ⟨Tryz.f256.name, by decide, Tryz.func256.trans (congrArg some (by kernel_rfl))⟩
  f35 := ⟨Tryz.f257.name, by decide, Tryz.func257.trans (congrArg some (by kernel_rfl))⟩
  f40 := ⟨Tryz.f263.name, by decide, Tryz.func263.trans (congrArg some (by kernel_rfl))⟩
  t0 := Tryz.underlying0
  a0 := Tryz.isAgg0
  z0 := Tryz.sizeOf0
  v0 := Tryz.zeroValue0
  t3 := Tryz.underlying3
  a3 := Tryz.isAgg3
  z3 := Tryz.sizeOf3
  v3 := Tryz.zeroValue3
  t4 := Tryz.underlying4
  a4 := Tryz.isAgg4
  z4 := Tryz.sizeOf4
  v4 := Tryz.zeroValue4
  t5 := Tryz.underlying5
  a5 := Tryz.isAgg5
  z5 := Tryz.sizeOf5
  v5 := Tryz.zeroValue5
  t9 := Tryz.underlying9
  a9 := Tryz.isAgg9
  z9 := Tryz.sizeOf9
  v9 := Tryz.zeroValue9
  t22 := Tryz.underlying53
  a22 := Tryz.isAgg53
  z22 := Tryz.sizeOf53
  v22 := Tryz.zeroValue53
  t23 := Tryz.underlying53
  a23 := Tryz.isAgg53
  z23 := Tryz.sizeOf53
  v23 := Tryz.zeroValue53
  t25 := Tryz.underlying3
  a25 := Tryz.isAgg3
  z25 := Tryz.sizeOf3
  v25 := Tryz.zeroValue3
  t32 := Tryz.underlying81
  a32 := Tryz.isAgg81
  z32 := Tryz.sizeOf81
  v32 := Tryz.zeroValue81
  t35 := Tryz.underlying286
  a35 := Tryz.isAgg286
  z35 := Tryz.sizeOf286
  v35 := Tryz.zeroValue286
  t36 := Tryz.underlying287
  a36 := Tryz.isAgg287
  z36 := Tryz.sizeOf287
  v36 := Tryz.zeroValue287
  t41 := Tryz.underlying258
  a41 := Tryz.isAgg258
  z41 := Tryz.sizeOf258
  v41 := Tryz.zeroValue258
  t44 := Tryz.underlying269
  a44 := Tryz.isAgg269
  z44 := Tryz.sizeOf269
  v44 := Tryz.zeroValue269
  t46 := Tryz.underlying272
  a46 := Tryz.isAgg272
  z46 := Tryz.sizeOf272
  v46 := Tryz.zeroValue272
  t53 := Tryz.underlying317
  a53 := Tryz.isAgg317
  z53 := Tryz.sizeOf317
  v53 := Tryz.zeroValue317
  t57 := Tryz.underlying321
  a57 := Tryz.isAgg321
  z57 := Tryz.sizeOf321
  v57 := Tryz.zeroValue321
  t63 := Tryz.underlying327
  a63 := Tryz.isAgg327
  z63 := Tryz.sizeOf327
  v63 := Tryz.zeroValue327
  t64 := Tryz.underlying135
  a64 := Tryz.isAgg135
  z64 := Tryz.sizeOf135
  v64 := Tryz.zeroValue135 }
end Go.Proofs.YtmgaegaibglnhaaGreat
namespace Go.Proofs.YtmgaegaibglnhaaGreat
open Go.RowKit Go.Maps Go.Sort Go.Shelf

theorem dkSorts (m : Nat) : AnyZI.SortsIn Tryz.prog Tryz.laysSorted_ren Fence.wide m :=
  ⟨fun blk off cap ss W hH hblk hsz => callsIn_wide.2 (AnyM.slices_Sort_int Tryz.laysSort blk off cap ss W hH hblk hsz),
   fun p cap W => callsIn_wide.2 (AnyM.slices_Sort_int_none Tryz.laysSort p cap W)⟩
theorem dkKeys_any (b : Nat) (w : World) : Calls Tryz.prog 55 #[.map (some b)] w fun e w' => e = .returned (.func (.func 107) #[] #[.pointer (some ⟨w.heap.size, 0, none⟩)]) ∧ w' = w.alloc (.cells #[.map (some b)] 86) :=
  (callsIn_wide (n := 5)).1 (AnyZI.keys_in Tryz.laysKeys Fence.wide 5 trivial rfl (some b) w)
theorem dkSorted_any (d r b n : Nat) (D : Dk) (w : World) (hD : DiskAt w d r b n D) :
    Calls Tryz.prog 54 #[.func (.func 107) #[] #[.pointer (some ⟨w.heap.size, 0, none⟩)]] (w.alloc (.cells #[.map (some b)] 86)) fun e w' => ∃ (A : Option Addr) (c : Nat), e = .returned (.slice A (oldKeys n D.old).length c) ∧ w'.ownsRow w.heap.size 3 1 (.slice A (oldKeys n D.old).length c) (oldKeys n D.old).length ((oldKeys n D.old).map fun (k : Nat) => Value.int .i64 (k : Int)) ∧ Below w.heap.size w w' := by
  have hrl : D.old.length ≤ 256 := by
    have h1 := rank_len hD.fine.ok
    have h2 := rank_le D.old n
    have := hD.most
    omega
  have hm1 : (D.old.map oldEnc).map (·.1) = (D.old.map fun p => (p.1 : Int)).map encZ := by
    rw [List.map_map, List.map_map]
    rfl
  have hwf : ∀ x ∈ (D.old.map fun p => (p.1 : Int)), (Lit.int .i64 x).wf = true := fun x hx => by
    obtain ⟨p, hp, rfl⟩ := List.mem_map.1 hx
    have h0 : IntKind.i64.min = -9223372036854775808 := by decide
    have h1 : IntKind.i64.max = 9223372036854775807 := by decide
    have h2 := hD.fine.ok.lt p hp
    have := hD.most
    simp only [Lit.wf, h0, h1, Bool.and_eq_true, decide_eq_true_eq]
    omega
  have hMap := hD.map.alloc (.cells #[.map (some b)] 86)
  obtain ⟨D0, hown, hperm, hsize⟩ := hMap.keys (P := Tryz.prog) (k := 3) Tryz.underlying3 hm1 hwf (by rw [List.length_map]; unfold maxLen; omega)
  rw [List.length_map] at hsize
  have hseq : SeqGives Fence.wide 2 Tryz.prog 107 #[.pointer (some ⟨w.heap.size, 0, none⟩)] encZ (fun ss => ss.Perm (intKeys D0)) (Maps.size D0) (w.alloc (.cells #[.map (some b)] 86)) :=
    AnyZI.keys_gives (ρ := Tryz.laysKeys_ren) { Tryz.laysKeys with } Fence.wide _ trivial rfl (by omega) w.heap.size b _ D0 _ (by simp) (by simp) hown
  have cS := AnyZI.sorted_in Tryz.laysSorted Fence.wide 5 trivial trivial trivial trivial rfl (by omega) (dkSorts _) (enters_of Tryz.func106 (by kernel_rfl) rfl) 107 #[.pointer (some ⟨w.heap.size, 0, none⟩)] trivial (enters_of Tryz.func107 (by kernel_rfl) rfl) _ _ (by unfold maxLen; omega) (by omega) _ hseq
  change CallsIn _ _ Tryz.prog 54 _ _ _ at cS
  refine (callsIn_wide.1 cS).mono ?_
  rintro e w' ⟨v, ss, rfl, hS, hrow, _, hb⟩
  have hss : ss.Perm (D.old.map fun p => (p.1 : Int)) := hS.trans hperm
  have hlen : ss.length = (oldKeys n D.old).length := by rw [hss.length_eq, List.length_map, oldKeys_len, rank_len hD.fine.ok]
  rw [keys_sorted hD.fine.ok hss, hlen, List.map_map] at hrow
  obtain ⟨A, c, rfl⟩ := own_form hrow
  exact ⟨A, c, rfl, ownsRow_base_a hrow (by simp), ((Below.refl _ w).alloc (Nat.le_refl _) _).trans (hb.mono (by simp))⟩

end Go.Proofs.YtmgaegaibglnhaaGreat
namespace Go.Proofs.YtmgaegaibglnhaaGreat
open Go.RowKit
open Go.Lib (strCells strCells_length strCells_oneCell)

theorem rows_of_blocks {w w' : World} {B n size : Nat} {e : TypeId} {v : Value} {xs : List Value} (h : w.ownsRow B e size v n xs) (hb : ∀ k, v.ownBlock = some k → w'.heap[k]? = w.heap[k]?) : w'.ownsRow B e size v n xs := by
  refine ⟨h.1, ?_⟩
  rcases h.2 with hn | ⟨q, cap, cur, hv, hb', hq, rest⟩
  · exact .inl hn
  · exact .inr ⟨q, cap, cur, hv, hb', (hb q (by rw [hv]; rfl)).trans hq, rest⟩
/-- A row from block B on stays where only older blocks, or none, turn. -/
theorem rows_turned {w w' : World} {B n size g b : Nat} {e : TypeId} {v : Value} {xs : List Value} (h : w.ownsRow B e size v n xs) (ht : Turns w w' g (some b)) (h1 : g < B) (h2 : b < B) : w'.ownsRow B e size v n xs :=
  rows_of_blocks h fun k hk => by
    have := h.lt k hk
    exact ht.block k this.2 (by omega) (fun e => by have := Option.some.inj e; omega)
theorem rows_on {w w' : World} {B n size : Nat} {e : TypeId} {v : Value} {xs : List Value} (h : w.ownsRow B e size v n xs) (hb : Below w.heap.size w w') : w'.ownsRow B e size v n xs :=
  rows_of_blocks h fun k hk => hb.block k (h.lt k hk).2
theorem ints_at {w : World} {B n c : Nat} {e : TypeId} {A : Option Addr} {ks : List Nat} (h : w.ownsRow B e 1 (.slice A n c) n (ks.map fun (k : Nat) => Value.int .i64 (k : Int))) {q k : Nat} (hq : ks[q]? = some k) : ∃ g, A = some ⟨g, 0, none⟩ ∧ w.cell? ⟨g, q, none⟩ = some (.int .i64 (k : Int)) := by
  have hlt := (List.getElem?_eq_some_iff.1 hq).1
  rcases h.2 with ⟨hv, h0⟩ | ⟨g, cap, cur, hv, hb, hq2, rest⟩
  · have := h.1
    rw [List.length_map] at this
    omega
  · injection hv with h1 _ h2
    subst h1
    refine ⟨g, rfl, ?_⟩
    have hc := h.cells (g := g) rfl q (.int .i64 (k : Int)) (by rw [List.getElem?_map, hq]; rfl)
    rw [show (⟨g, 0, none⟩ : Addr).add q = ⟨g, q, none⟩ from by unfold Addr.add; split <;> simp_all] at hc
    exact hc

set_option maxRecDepth 100000 in
set_option maxHeartbeats 1000000 in
theorem dkCrash_any (keep : Int) (d r b n : Nat) (D : Dk) (w : World) (hD : DiskAt w d r b n D) : Calls Tryz.prog 18 #[.pointer (some ⟨d, 0, none⟩), .int .i64 keep] w fun e w' => e = .returned (.int .i64 0) ∧ DiskAt w' d r b n (D.crash keep) ∧ Turns w w' r (some b) := by
  have hK := hid (dkKeys_any b w)
  have hS := hid (dkSorted_any d r b n D w hD)
  have hfin := hid hD.fine
  have c1 := hD.own.cK 1 _ rfl
  have hA0 := hid hD
  have hlt := hid hD.lt
  have hL : (oldKeys n D.old).length ≤ 256 := by
    have h2 := rank_le D.old n
    have := hD.most
    rw [oldKeys_len]
    omega
  obtain ⟨L, hLL⟩ : ∃ L, (oldKeys n D.old).length = L := ⟨_, rfl⟩
  rw [hLL] at hS hL
  have hLL' := hid hLL
  clear hD hLL
  go_enter Tryz.func18, Tryz.ntmps18
  go_wp2_with fail
  refine hK.out.mono ?_
  rintro e w' ⟨rfl, rfl⟩
  try (rename_i hKK; refine hKK _ _ ?_; clear hKK)
  go_wp2_with fail
  refine hS.out.mono ?_
  rintro e W1 ⟨A, c, rfl, hrow, hb⟩
  have hA1 := hid (hA0.out.on hb)
  have hT1 := hid (Turns.of_below hb r (some b))
  have hR1 := hid hrow
  clear hK hS hrow hb hA0 c1
  try (rename_i hKK; refine hKK _ _ ?_; clear hKK)
  go_wp2_with fail
  go_loopw [16] (fun ix wr => ∃ q : Nat, q ≤ L ∧ ix = .int .i64 (q : Int) ∧ DiskAt wr d r b n ⟨D.mid keep q, D.old⟩ ∧ Turns w wr r (some b) ∧ wr.ownsRow w.heap.size 3 1 (.slice A L c) L ((oldKeys n D.old).map fun (k : Nat) => Value.int .i64 (k : Int))) (fun ix _ => L - (intOf ix).toNat)
  case atStart => exact ⟨0, Nat.zero_le _, rfl, by rw [D.mid_zero keep]; exact hA1.out, hT1.out, hR1.out⟩
  case round =>
    obtain ⟨q, hq, rfl, hAr, hTr, hRr⟩ := hrel
    obtain ⟨W10, rfl⟩ : ∃ V, V = wr := ⟨_, rfl⟩
    have hA10 := hid hAr
    have hT10 := hid hTr
    have hR10 := hid hRr
    clear hAr hTr hRr hA1 hT1 hR1
    by_cases hql : q < L
    · have hql' : (q : Int) < (L : Int) := by omega
      obtain ⟨k, hkq⟩ : ∃ k, (oldKeys n D.old)[q]? = some k := ⟨_, List.getElem?_eq_getElem (by rw [hLL'.out]; exact hql)⟩
      obtain ⟨k1, k2, k3⟩ := oldKeys_at hkq
      obtain ⟨o, ho⟩ := dirt_mem k2
      have hst := hid (D.mid_step keep hfin.out hkq ho)
      obtain ⟨g, rfl, hcq⟩ := ints_at hR10.out hkq
      have hkn := hid k1
      have ho' := hid ho
      have k4 : (k : Int) < (n : Int) := by omega
      have s3 : (0 : Int) ≤ (k : Int) := by omega
      have s4 : (0 : Int) ≤ (q : Int) := by omega
      have ho64 := hid (hfin.out.ok.len _ (oldGet_mem ho))
      have hqw := IntWalk.i64_in ((q : Int) + 1) (by omega)
      clear hkq k1 k2 k3 ho
      rcases keepB_cases keep q with ⟨kb, kt0, kt1, kt2⟩ | ⟨kb, kt0, kt1, kt2⟩ | ⟨kb, kt0, kt1⟩
      · rw [kb, if_pos rfl] at hst
        clear kb
        go_wp2_with fail
        go_roundw
        case rel => exact ⟨q + 1, by omega, by go_num, by rw [hst.out]; exact hA10.out, hT10.out, hR10.out⟩
        case measure => simp [intOf]; omega
      · rw [kb, if_neg (by decide)] at hst
        clear kb
        go_wp2_with fail
        clear hcq
        have hlk := hid (fun V xs (h : DiskAt V d r b n ⟨xs, D.old⟩) => show (Instr.lookup 86 (.map (some b)) (.int .i64 (k : Int)) false).run Tryz.prog V = .ok (.agg (strCells o).toArray) V from by have hl := h.look hkn.out false; rw [ho'.out] at hl; exact hl)
        have hb : Below W10.heap.size W10 W10.drew := (Below.refl _ _).drew
        have hA11 := hid (hA10.out.on hb)
        have hT11 := hid (tr_up hb hT10.out)
        have hR11 := hid (rows_on hR10.out hb)
        clear hb hA10 hT10 hR10
        refine wp_region_held_drew (S := fun V => V.cell? ⟨d, 0, none⟩ = some (.slice (some ⟨r, 0, none⟩) n n) ∧ V.cell? ⟨d, 1, none⟩ = some (.map (some b)) ∧ (Instr.lookup 86 (.map (some b)) (.int .i64 (k : Int)) false).run Tryz.prog V = .ok (.agg (strCells o).toArray) V) (by kernel_rfl) (by exact ⟨hA11.out.own.cK 0 _ rfl, hA11.out.own.cK 1 _ rfl, hlk.out _ _ hA11.out⟩) (fun hHeld => ?_)
        generalize W10.drew = W11 at *
        refine tkn 0 (.pointer (some ⟨d, 0, none⟩)) rfl (by kernel_rfl) (fun _ _ _ h => h) (yieldsIf_move _ rfl rfl rfl) hHeld ?_
        simp only [ly, Act.put]
        refine tkn 1 (.pointer (some ⟨d, 0, none⟩)) rfl (by kernel_rfl) (fun _ _ _ h => h) (.inl ⟨by kernel_rfl, fun w _ => by go_simp⟩) hHeld ?_
        simp only [ly, Act.put]
        refine tkn 2 (.pointer (some ⟨d, 0, none⟩)) rfl (by kernel_rfl) (fun _ _ _ h => h) (.inl ⟨by kernel_rfl, fun w _ => by go_simp⟩) hHeld ?_
        simp only [ly, Act.put]
        refine tkn 3 (.slice (some ⟨r, 0, none⟩) n n) rfl (by kernel_rfl) (fun _ _ _ h => h) (.inl ⟨by kernel_rfl, fun V hS => by have c0 := hS.1; go_simp⟩) hHeld ?_
        simp only [ly, Act.put]
        refine tkn 4 (.int .i64 (k : Int)) rfl (by kernel_rfl) (fun _ _ _ h => h) (yieldsIf_move _ rfl rfl rfl) hHeld ?_
        simp only [ly, Act.put]
        refine tkn 5 (.pointer (some ⟨d, 0, none⟩)) rfl (by kernel_rfl) (fun _ _ _ h => h) (yieldsIf_move _ rfl rfl rfl) hHeld ?_
        simp only [ly, Act.put]
        refine tkn 6 (.pointer (some ⟨d, 0, none⟩)) rfl (by kernel_rfl) (fun _ _ _ h => h) (.inl ⟨by kernel_rfl, fun w _ => by go_simp⟩) hHeld ?_
        simp only [ly, Act.put]
        refine tkn 7 (.pointer (some ⟨d, 1, none⟩)) rfl (by kernel_rfl) (fun _ _ _ h => h) (.inl ⟨by kernel_rfl, fun w _ => by go_simp⟩) hHeld ?_
        simp only [ly, Act.put]
        refine tkn 8 (.map (some b)) rfl (by kernel_rfl) (fun _ _ _ h => h) (.inl ⟨by kernel_rfl, fun V hS => by have c1 := hS.2.1; go_simp⟩) hHeld ?_
        simp only [ly, Act.put]
        refine tkn 9 (.int .i64 (k : Int)) rfl (by kernel_rfl) (fun _ _ _ h => h) (yieldsIf_move _ rfl rfl rfl) hHeld ?_
        simp only [ly, Act.put]
        refine tkn 10 (.agg (strCells o).toArray) rfl (by kernel_rfl) (fun _ _ _ h => h) (.inl ⟨by kernel_rfl, fun V hS => by have hl := hS.2.2; go_simp⟩) hHeld ?_
        simp only [ly, Act.put]
        refine tkn 11 (.pointer (some ⟨r, k * 64, none⟩)) rfl (by kernel_rfl) (fun _ _ _ h => h) (.inl ⟨by kernel_rfl, fun w _ => by go_simp⟩) hHeld ?_
        simp only [ly, Act.put]
        refine wpAnyH_ready (rs := [12]) (by kernel_rfl) (by simp) (AllReadyH.cons rfl (fun K hK => ?_) AllReadyH.nil)
        have hK' := hid hK
        clear hK
        rw [if_pos (by kernel_rfl)]
        simp only [ly1, ly2, ly3]
        refine wp_store_mid _ _ _ rfl r (k * 64) (strCells o).toArray rfl rfl (by exact hA11.out.row.there _ _ (by rw [secCells_length _ hA11.out.fine.secs, List.size_toArray, strCells_length, ho64.out, hA11.out.fine.len]; have := hkn.out; omega)) (by exact secSizeA o ho64.out) (by exact secOne o) ?_
        generalize hXx : World.setCells _ _ _ _ = W12
        have hh := hA11.out.store hkn.out ho64.out hXx
        have hA12 := hid hh.1
        have hT12 := hid (tr_on hT11.out hh.2)
        have hR12 := hid (rows_turned hR11.out hh.2 hlt.out.2.1 hlt.out.2.2)
        clear hh hXx hA11 hT11 hR11
        refine hK'.out _ _ (by exact ⟨hA12.out.own.cK 0 _ rfl, hA12.out.own.cK 1 _ rfl, hlk.out _ _ hA12.out⟩) (fun hHeld => ?_)
        clear hK' K
        refine wpAnyH_done (by kernel_rfl) ?_ _
        go_wp2_with fail
        go_roundw
        case rel => exact ⟨q + 1, by omega, by go_num, by rw [hst.out]; exact hA12.out, hT12.out, hR12.out⟩
        case measure => simp [intOf]; omega
      · rw [kb, if_neg (by decide)] at hst
        clear kb
        go_wp2_with fail
        clear hcq
        have hlk := hid (fun V xs (h : DiskAt V d r b n ⟨xs, D.old⟩) => show (Instr.lookup 86 (.map (some b)) (.int .i64 (k : Int)) false).run Tryz.prog V = .ok (.agg (strCells o).toArray) V from by have hl := h.look hkn.out false; rw [ho'.out] at hl; exact hl)
        have hb : Below W10.heap.size W10 W10.drew := (Below.refl _ _).drew
        have hA11 := hid (hA10.out.on hb)
        have hT11 := hid (tr_up hb hT10.out)
        have hR11 := hid (rows_on hR10.out hb)
        clear hb hA10 hT10 hR10
        refine wp_region_held_drew (S := fun V => V.cell? ⟨d, 0, none⟩ = some (.slice (some ⟨r, 0, none⟩) n n) ∧ V.cell? ⟨d, 1, none⟩ = some (.map (some b)) ∧ (Instr.lookup 86 (.map (some b)) (.int .i64 (k : Int)) false).run Tryz.prog V = .ok (.agg (strCells o).toArray) V) (by kernel_rfl) (by exact ⟨hA11.out.own.cK 0 _ rfl, hA11.out.own.cK 1 _ rfl, hlk.out _ _ hA11.out⟩) (fun hHeld => ?_)
        generalize W10.drew = W11 at *
        refine tkn 0 (.pointer (some ⟨d, 0, none⟩)) rfl (by kernel_rfl) (fun _ _ _ h => h) (yieldsIf_move _ rfl rfl rfl) hHeld ?_
        simp only [ly, Act.put]
        refine tkn 1 (.pointer (some ⟨d, 0, none⟩)) rfl (by kernel_rfl) (fun _ _ _ h => h) (.inl ⟨by kernel_rfl, fun w _ => by go_simp⟩) hHeld ?_
        simp only [ly, Act.put]
        refine tkn 2 (.pointer (some ⟨d, 0, none⟩)) rfl (by kernel_rfl) (fun _ _ _ h => h) (.inl ⟨by kernel_rfl, fun w _ => by go_simp⟩) hHeld ?_
        simp only [ly, Act.put]
        refine tkn 3 (.slice (some ⟨r, 0, none⟩) n n) rfl (by kernel_rfl) (fun _ _ _ h => h) (.inl ⟨by kernel_rfl, fun V hS => by have c0 := hS.1; go_simp⟩) hHeld ?_
        simp only [ly, Act.put]
        refine tkn 4 (.int .i64 (k : Int)) rfl (by kernel_rfl) (fun _ _ _ h => h) (yieldsIf_move _ rfl rfl rfl) hHeld ?_
        simp only [ly, Act.put]
        refine tkn 5 (.pointer (some ⟨d, 0, none⟩)) rfl (by kernel_rfl) (fun _ _ _ h => h) (yieldsIf_move _ rfl rfl rfl) hHeld ?_
        simp only [ly, Act.put]
        refine tkn 6 (.pointer (some ⟨d, 0, none⟩)) rfl (by kernel_rfl) (fun _ _ _ h => h) (.inl ⟨by kernel_rfl, fun w _ => by go_simp⟩) hHeld ?_
        simp only [ly, Act.put]
        refine tkn 7 (.pointer (some ⟨d, 1, none⟩)) rfl (by kernel_rfl) (fun _ _ _ h => h) (.inl ⟨by kernel_rfl, fun w _ => by go_simp⟩) hHeld ?_
        simp only [ly, Act.put]
        refine tkn 8 (.map (some b)) rfl (by kernel_rfl) (fun _ _ _ h => h) (.inl ⟨by kernel_rfl, fun V hS => by have c1 := hS.2.1; go_simp⟩) hHeld ?_
        simp only [ly, Act.put]
        refine tkn 9 (.int .i64 (k : Int)) rfl (by kernel_rfl) (fun _ _ _ h => h) (yieldsIf_move _ rfl rfl rfl) hHeld ?_
        simp only [ly, Act.put]
        refine tkn 10 (.agg (strCells o).toArray) rfl (by kernel_rfl) (fun _ _ _ h => h) (.inl ⟨by kernel_rfl, fun V hS => by have hl := hS.2.2; go_simp⟩) hHeld ?_
        simp only [ly, Act.put]
        refine tkn 11 (.pointer (some ⟨r, k * 64, none⟩)) rfl (by kernel_rfl) (fun _ _ _ h => h) (.inl ⟨by kernel_rfl, fun w _ => by go_simp⟩) hHeld ?_
        simp only [ly, Act.put]
        refine wpAnyH_ready (rs := [12]) (by kernel_rfl) (by simp) (AllReadyH.cons rfl (fun K hK => ?_) AllReadyH.nil)
        have hK' := hid hK
        clear hK
        rw [if_pos (by kernel_rfl)]
        simp only [ly1, ly2, ly3]
        refine wp_store_mid _ _ _ rfl r (k * 64) (strCells o).toArray rfl rfl (by exact hA11.out.row.there _ _ (by rw [secCells_length _ hA11.out.fine.secs, List.size_toArray, strCells_length, ho64.out, hA11.out.fine.len]; have := hkn.out; omega)) (by exact secSizeA o ho64.out) (by exact secOne o) ?_
        generalize hXx : World.setCells _ _ _ _ = W12
        have hh := hA11.out.store hkn.out ho64.out hXx
        have hA12 := hid hh.1
        have hT12 := hid (tr_on hT11.out hh.2)
        have hR12 := hid (rows_turned hR11.out hh.2 hlt.out.2.1 hlt.out.2.2)
        clear hh hXx hA11 hT11 hR11
        refine hK'.out _ _ (by exact ⟨hA12.out.own.cK 0 _ rfl, hA12.out.own.cK 1 _ rfl, hlk.out _ _ hA12.out⟩) (fun hHeld => ?_)
        clear hK' K
        refine wpAnyH_done (by kernel_rfl) ?_ _
        go_wp2_with fail
        go_roundw
        case rel => exact ⟨q + 1, by omega, by go_num, by rw [hst.out]; exact hA12.out, hT12.out, hR12.out⟩
        case measure => simp [intOf]; omega
    · obtain rfl : q = L := by omega
      have c1 := hA10.out.own.cK 1 _ rfl
      go_wp2_with (first
        | ((with_reducible refine at_slot none ?_); obtain ⟨W11, hr, hA, hT⟩ := hA10.out.wipe _; refine wpList_wipe rfl (.tmp 46) _ rfl (.map (some b)) rfl W11 (by exact hr) ?_; have hA := hid hA; have hT := hid hT; clear hr)
        | fail)
      go_ret
      refine ⟨rfl, ?_, tr_on hT10.out hT.out⟩
      have h1 := D.mid_end keep
      rw [← hfin.out.len, oldKeys_len] at hLL'
      have h2 := hA.out
      rw [← hLL'.out, h1] at h2
      exact h2


end Go.Proofs.YtmgaegaibglnhaaGreat
