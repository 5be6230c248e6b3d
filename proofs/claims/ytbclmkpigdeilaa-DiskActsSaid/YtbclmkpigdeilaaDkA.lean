/- Layer 7, the program's side: a disk in memory; New, Read, Sync, Dirty, Sectors. -/
import Derived.Test.YtbclmkpigdeilaaDkP
import Derived.Test.YtbclmkpigdeilaaMapI
import Derived.Test.YtbclmkpigdeilaaLoadOn
import Derived.Test.YtbclmkpigdeilaaYields
import Derived.Test.YtbclmkpigdeilaaNum0
namespace Go.Proofs.Ytbclmkpigdeilaa
open Go.RowKit
open Go.Maps (Keyed)
open Go.Lib (strCells strCells_length strCells_oneCell)

theorem Holds.cK {w : World} {g : Nat} {t : TypeId} {cs : List Value} (h : Holds w g t cs) (j : Nat) (v : Value) (hv : cs[j]? = some v) : w.cell? ⟨g, j, none⟩ = some v := (h.cell j).trans hv

theorem holds_fars {w W : World} {g b o : Nat} {t : TypeId} {cs vs : List Value} (e : w.setCells b o vs = W) (h : Holds w g t cs) (hg : g ≠ b) : Holds W g t cs := by
  subst e
  exact h.fars b o vs hg

/-- Sectors, one behind the other. -/
def secCells (xs : List ByteArray) : List Value := xs.flatMap strCells
theorem secCells_length : ∀ (xs : List ByteArray), (∀ x ∈ xs, x.size = 64) → (secCells xs).length = xs.length * 64
  | [], _ => rfl
  | x :: xs, h => by
    have ih := secCells_length xs (fun y hy => h y (List.mem_cons_of_mem _ hy))
    have hx := h x (List.mem_cons_self ..)
    have e : secCells (x :: xs) = strCells x ++ secCells xs := rfl
    rw [e, List.length_append, ih, strCells_length, hx, List.length_cons]
    omega
theorem secCells_at : ∀ (xs : List ByteArray) (_ : ∀ x ∈ xs, x.size = 64) (k : Nat) (x : ByteArray) (_ : xs[k]? = some x) (j : Nat) (_ : j < 64), (secCells xs)[k * 64 + j]? = (strCells x)[j]?
  | [], _, k, x, hk, _, _ => by simp at hk
  | y :: xs, h, 0, x, hk, j, hj => by
    have hy := h y (List.mem_cons_self ..)
    have e : secCells (y :: xs) = strCells y ++ secCells xs := rfl
    have ex : y = x := by simpa using hk
    subst ex
    rw [e, Nat.zero_mul, Nat.zero_add, List.getElem?_append_left (by rw [strCells_length, hy]; exact hj)]
  | y :: xs, h, k + 1, x, hk, j, hj => by
    have hy := h y (List.mem_cons_self ..)
    have e : secCells (y :: xs) = strCells y ++ secCells xs := rfl
    have ih := secCells_at xs (fun y hy => h y (List.mem_cons_of_mem _ hy)) k x (by simpa using hk) j hj
    have hl : (strCells y).length = 64 := by rw [strCells_length, hy]
    rw [e, List.getElem?_append_right (by rw [hl]; omega), hl, ← ih]
    congr 1
    omega
theorem secCells_set : ∀ (xs : List ByteArray) (_ : ∀ x ∈ xs, x.size = 64) (k : Nat) (x : ByteArray) (_ : x.size = 64) (_ : k < xs.length), secCells (xs.set k x) = put (secCells xs) (k * 64) (strCells x)
  | [], _, k, x, _, hk => by simp at hk
  | y :: xs, h, 0, x, hx, _ => by
    have hy : (strCells y).length = 64 := by rw [strCells_length, h y (List.mem_cons_self ..)]
    have hx' : (strCells x).length = 64 := by rw [strCells_length, hx]
    have e : secCells (y :: xs) = strCells y ++ secCells xs := rfl
    have e2 : secCells ((y :: xs).set 0 x) = strCells x ++ secCells xs := rfl
    unfold put
    rw [e2, e, Nat.zero_mul, List.take_zero, List.nil_append, Nat.zero_add, hx', List.drop_append_of_le_length (by rw [hy]; exact Nat.le_refl _), List.drop_of_length_le (by rw [hy]; exact Nat.le_refl _), List.nil_append]
  | y :: xs, h, k + 1, x, hx, hk => by
    have hy : (strCells y).length = 64 := by rw [strCells_length, h y (List.mem_cons_self ..)]
    have hx' : (strCells x).length = 64 := by rw [strCells_length, hx]
    have ih := secCells_set xs (fun z hz => h z (List.mem_cons_of_mem _ hz)) k x hx (by simpa using hk)
    have e : secCells (y :: xs) = strCells y ++ secCells xs := rfl
    have e2 : secCells ((y :: xs).set (k + 1) x) = strCells y ++ secCells (xs.set k x) := rfl
    unfold put at ih ⊢
    have e3 : (k + 1) * 64 = (strCells y).length + k * 64 := by rw [hy]; omega
    rw [e2, e, ih, e3, Nat.add_assoc, List.take_length_add_append, List.drop_length_add_append]
    simp only [List.append_assoc]
theorem secCells_zero (n : Nat) : secCells (List.replicate n (zeroS 64)) = List.replicate (n * 64) (.int .u8 0) := by
  induction n with
  | zero => rfl
  | succ n ih =>
    have e : secCells (List.replicate (n + 1) (zeroS 64)) = strCells (zeroS 64) ++ secCells (List.replicate n (zeroS 64)) := rfl
    rw [e, ih, zeroS_cells, List.replicate_append_replicate]
    congr 1
    omega
/-- A sector of zeros. -/
def z64 : Array Value := Array.replicate 64 (.int .u8 0)
theorem z64_list : z64.toList = strCells (zeroS 64) := by rw [zeroS_cells]; exact Array.toList_replicate ..
theorem made_secs (n : Nat) : madeCells z64 (n * 64) = (secCells (List.replicate n (zeroS 64))).toArray := by
  rw [secCells_zero]
  apply Array.ext
  · simp [madeCells]
  · intro j h1 h2
    have hz : ∀ k, k < 64 → z64[k]! = .int .u8 0 := by
      intro k hk
      have hk' : k < z64.size := by simpa [z64] using hk
      rw [getElem!_pos z64 k hk']
      unfold z64
      exact Array.getElem_replicate ..
    have hs : z64.size = 64 := by decide
    simp [madeCells, hs]
    exact hz _ (Nat.mod_lt _ (by decide))
theorem Try.infoSec : (Try.prog.info? 121).map (fun i => (i.zero, i.size, i.bytes)) = some (some (.agg z64), 64, 64) := by kernel_rfl
theorem secSize (s : ByteArray) (hs : s.size = 64) : (Try.prog.info? 121).map (·.size) = some (strCells s).length := by
  rw [strCells_length, hs]
  kernel_rfl
theorem secSizeA (s : ByteArray) (hs : s.size = 64) : (Try.prog.info? 121).map (·.size) = some (strCells s).toArray.size := by
  rw [List.size_toArray]
  exact secSize s hs
theorem secOne (s : ByteArray) : (strCells s).toArray.all (·.oneCell') = true := all_oneCell_toArray (strCells_oneCell s)

section
variable {ops : Array Oper} {o : Oper} {a : Act} {w : World} {Q : Exit → Act → World → Prop}
/-- 'make([]sector, n)'. -/
theorem wpList_make_secs {rest : List Oper} (hgd : o.guard = none) (l c : Operand) (hop : o.op = Op.makeSlice 112 l c) (L : Int) (n : Nat) (hl : a.eval l = .int .i64 L) (hc : a.eval c = .int .i64 L) (hL : L = (n : Int)) (hn : n ≤ 1000000000)
    (h : wpList Try.prog ops Q rest (a.put o.dst (.slice (some ⟨w.heap.size, 0, none⟩) n n)) (w.alloc (.cells (secCells (List.replicate n (zeroS 64))).toArray 121))) : wpList Try.prog ops Q (o :: rest) a w := by
  subst hL
  obtain ⟨i, hi, hz, hsize, hby⟩ := info_parts Try.infoSec
  have hrun := run_make (P := Try.prog) w 112 121 i (.agg z64) Try.underlying112 hi hz .i64 .i64 (n : Int) (n : Int) (by omega) (by omega) (by rw [hby]; omega) (by omega)
  have hzc : (Value.agg z64).cells = z64 := rfl
  rw [hzc, Int.toNat_natCast, hsize, made_secs] at hrun
  refine wpList_run hgd _ _ ?_ h
  unfold execOp
  simp only [hop, hl, hc, Sem.run_bind, hrun, Result.andThen_ok, Sem.run_pure]
end

/-- What an unsynced sector is in the map. -/
def oldEnc (p : Nat × ByteArray) : Value × Value := (.int .i64 (p.1 : Int), .agg (strCells p.2).toArray)

/-- A disk in memory: its own block d, its sectors' r, its map's b. -/
structure DiskAt (w : World) (d r b n : Nat) (D : Dk) : Prop where
  own : Holds w d 115 [.slice (some ⟨r, 0, none⟩) n n, .map (some b)]
  row : Holds w r 121 (secCells D.xs)
  map : MapS w b (D.old.map oldEnc)
  fine : D.fine n
  most : n ≤ 256
  dr : d ≠ r

theorem map_apart {w : World} {g b : Nat} {t : TypeId} {cs : List Value} {m : List (Value × Value)} (h : Holds w g t cs) (hm : MapS w b m) : g ≠ b := fun e => by
  obtain ⟨es, clock, hb, _⟩ := hm
  unfold Holds at h
  rw [e, hb] at h
  cases h

section
variable {w w' : World} {d r b n : Nat} {D : Dk}
theorem DiskAt.db (h : DiskAt w d r b n D) : d ≠ b := map_apart h.own h.map
theorem DiskAt.rb (h : DiskAt w d r b n D) : r ≠ b := map_apart h.row h.map
theorem DiskAt.lt (h : DiskAt w d r b n D) : d < w.heap.size ∧ r < w.heap.size ∧ b < w.heap.size := ⟨h.own.lt, h.row.lt, h.map.lt⟩
theorem DiskAt.below {B : Nat} (h : DiskAt w d r b n D) (hb : Below B w w') (h1 : d < B ∧ r < B ∧ b < B) : DiskAt w' d r b n D := ⟨h.own.below hb h1.1, h.row.below hb h1.2.1, h.map.below hb h1.2.2, h.fine, h.most, h.dr⟩
theorem DiskAt.on (h : DiskAt w d r b n D) (hb : Below w.heap.size w w') : DiskAt w' d r b n D := h.below hb h.lt
theorem DiskAt.far {W : World} (h : DiskAt w d r b n D) {g o : Nat} {vs : List Value} (h1 : d ≠ g ∧ r ≠ g ∧ b ≠ g) (e : w.setCells g o vs = W) : DiskAt W d r b n D := by
  subst e
  exact ⟨h.own.fars g o vs h1.1, h.row.fars g o vs h1.2.1, h.map.fars g o vs h1.2.2, h.fine, h.most, h.dr⟩
/-- Another call turned other blocks. -/
theorem DiskAt.turned {g : Nat} {q : Option Nat} (h : DiskAt w d r b n D) (ht : Turns w w' g q) (h1 : d ≠ g ∧ r ≠ g ∧ b ≠ g) (h2 : some d ≠ q ∧ some r ≠ q ∧ some b ≠ q) : DiskAt w' d r b n D :=
  ⟨ht.holds h.own h1.1 h2.1, ht.holds h.row h1.2.1 h2.2.1, h.map.block (ht.block b h.map.lt h1.2.2 h2.2.2), h.fine, h.most, h.dr⟩

theorem secKeyed : Keyed Try.prog 3 := Maps.int_keyed Try.underlying3
theorem secKey (k : Nat) (hk : k ≤ 256) : keyOf Try.prog 3 (.int .i64 (k : Int)) = some (.int .i64 (k : Int)) := Maps.keyOf_int_mk Try.underlying3 (by
  have h0 : IntKind.i64.min = -9223372036854775808 := by decide
  have h1 : IntKind.i64.max = 9223372036854775807 := by decide
  simp only [Lit.wf, h0, h1, Bool.and_eq_true, decide_eq_true_eq]
  omega)
theorem secZero (w : World) : (zeroValue 121).run Try.prog w = .ok (.agg z64) w := by kernel_rfl
theorem oldKeysOk {m : Olds} (hm : OldsOk n m) (hn : n ≤ 256) : ∀ p ∈ m.map oldEnc, ∃ l, keyOf Try.prog 3 p.1 = some l := fun p hp => by
  obtain ⟨q, hq, rfl⟩ := List.mem_map.1 hp
  exact ⟨_, secKey q.1 (by have := hm.lt q hq; omega)⟩
theorem oldMiss {m : Olds} {k : Nat} : mapGet (m.map oldEnc) (.int .i64 (k : Int)) none ↔ oldGet m k = none := by
  rw [oldGet_none]
  constructor
  · intro h p hp e
    exact h (oldEnc p) (List.mem_map.2 ⟨p, hp, rfl⟩) (by unfold oldEnc; rw [e])
  · intro h p hp e
    obtain ⟨q, hq, rfl⟩ := List.mem_map.1 hp
    unfold oldEnc at e
    injection e with _ e
    exact h q hq (by omega)
theorem oldGet_of {m : Olds} (hm : OldsOk n m) {p : Nat × ByteArray} (hp : p ∈ m) : oldGet m p.1 = some p.2 := by
  have hnd := hm.nd
  clear hm
  induction m with
  | nil => cases hp
  | cons q m ih =>
    rw [List.map_cons, List.nodup_cons] at hnd
    unfold oldGet
    rw [List.find?_cons]
    rcases List.mem_cons.1 hp with rfl | h
    · simp
    · have : (q.1 == p.1) = false := beq_eq_false_iff_ne.2 fun e => hnd.1 (by rw [e]; exact List.mem_map.2 ⟨p, h, rfl⟩)
      rw [this]
      exact ih h hnd.2
theorem oldHit {m : Olds} (hm : OldsOk n m) {k : Nat} {v : Value} (h : mapGet (m.map oldEnc) (.int .i64 (k : Int)) (some v)) : ∃ s, oldGet m k = some s ∧ v = .agg (strCells s).toArray := by
  obtain ⟨p, hp, h1, h2⟩ := h
  obtain ⟨q, hq, rfl⟩ := List.mem_map.1 hp
  unfold oldEnc at h1 h2
  injection h1 with _ h1
  have e : q.1 = k := by omega
  exact ⟨q.2, by rw [← e]; exact oldGet_of hm hq, h2.symm⟩
/-- 'm[k]', 'v, ok := m[k]'. -/
theorem DiskAt.look (h : DiskAt w d r b n D) {k : Nat} (hk : k < n) (c : Bool) :
    (Instr.lookup 113 (.map (some b)) (.int .i64 (k : Int)) c).run Try.prog w = .ok (if c then .tuple #[.agg (strCells ((oldGet D.old k).getD (zeroS 64))).toArray, .bool (dirt D.old k)] else .agg (strCells ((oldGet D.old k).getD (zeroS 64))).toArray) w := by
  have hl := h.map.at_.look (P := Try.prog) c secKeyed (oldKeysOk h.fine.ok h.most) Try.underlying113 (secZero w) (secKey k (by have := h.most; omega))
  unfold dirt
  rcases hl with ⟨h1, h2⟩ | ⟨v, h1, h2⟩
  · rw [oldMiss.1 h2, h1, Option.getD_none, Option.isSome_none, ← z64_list, Array.toArray_toList]
  · obtain ⟨s, hs, rfl⟩ := oldHit h.fine.ok h2
    rw [hs, h1, Option.getD_some, Option.isSome_some]
/-- The sector at k is held for a crash. -/
theorem DiskAt.hold (h : DiskAt w d r b n D) {k : Nat} (hk : k < n) (hd : dirt D.old k = false) :
    ∃ w', (Instr.mapUpdate 113 (.map (some b)) (.int .i64 (k : Int)) (.agg (strCells (D.xs.getD k ⟨#[]⟩)).toArray)).run Try.prog w = .ok () w' ∧ DiskAt w' d r b n ⟨D.xs, D.old ++ [(k, D.xs.getD k ⟨#[]⟩)]⟩ ∧ Turns w w' r (some b) := by
  obtain ⟨w', h1, h2, h3, h4, h5⟩ := h.map.put (P := Try.prog) secKeyed (oldKeysOk h.fine.ok h.most) Try.underlying113 (secKey k (by have := h.most; omega)) (oldMiss.2 (dirt_no.1 hd)) (.agg (strCells (D.xs.getD k ⟨#[]⟩)).toArray)
  refine ⟨w', h1, ⟨(h4 d h.db).trans h.own, (h4 r h.rb).trans h.row, ?_, ⟨h.fine.len, h.fine.secs, h.fine.ok.add hk (h.fine.get hk) (dirt_no.1 hd)⟩, h.most, h.dr⟩, Turns.of_grown h5 r⟩
  rw [List.map_append]
  exact h2
theorem DiskAt.wipe (h : DiskAt w d r b n D) (ty : TypeId) :
    ∃ w', (Builtin.clear_ #[113] ty #[.map (some b)]).run Try.prog w = .ok (.tuple #[]) w' ∧ DiskAt w' d r b n D.sync ∧ Turns w w' r (some b) := by
  obtain ⟨w', h1, h2, h3, h4, h5⟩ := h.map.clear (P := Try.prog) Try.underlying113 ty
  exact ⟨w', h1, ⟨(h4 d h.db).trans h.own, (h4 r h.rb).trans h.row, h2, h.fine.sync, h.most, h.dr⟩, Turns.of_grown h5 r⟩
theorem DiskAt.len (h : DiskAt w d r b n D) (ty : TypeId) : (Builtin.len_ #[113] ty #[.map (some b)]).run Try.prog w = .ok (.int .i64 (D.old.length : Int)) w := by
  have := h.map.at_.len (P := Try.prog) Try.underlying113 ty
  rwa [List.length_map] at this
/-- A sector's cells. -/
theorem DiskAt.sec (h : DiskAt w d r b n D) {k : Nat} (hk : k < n) : ∀ j v, (strCells (D.xs.getD k ⟨#[]⟩))[j]? = some v → w.cell? ((⟨r, k * 64, none⟩ : Addr).add j) = some v := fun j v hv => by
  have hj : j < 64 := by
    have := (List.getElem?_eq_some_iff.1 hv).1
    rw [strCells_length, h.fine.get hk] at this
    exact this
  have hx : D.xs[k]? = some (D.xs.getD k ⟨#[]⟩) := by
    rw [List.getD_eq_getElem?_getD, List.getElem?_eq_getElem (by rw [h.fine.len]; exact hk)]
    rfl
  rw [Addr.add_mid, h.row.cell, secCells_at D.xs h.fine.secs k _ hx j hj]
  exact hv
/-- A sector is written. -/
theorem DiskAt.store (h : DiskAt w d r b n D) {k : Nat} (hk : k < n) {s : ByteArray} (hs : s.size = 64) {W : World} (e : w.setCells r (k * 64) (strCells s) = W) : DiskAt W d r b n ⟨D.xs.set k s, D.old⟩ ∧ Turns w W r (some b) := by
  have hkl : k < D.xs.length := by rw [h.fine.len]; exact hk
  have hp := h.row.put (k * 64) (strCells s) (by rw [secCells_length _ h.fine.secs, strCells_length, hs]; omega)
  rw [e, ← secCells_set D.xs h.fine.secs k s hs hkl] at hp
  refine ⟨⟨holds_fars e h.own h.dr, hp, ?_, ⟨by rw [List.length_set]; exact h.fine.len, ?_, h.fine.ok⟩, h.most, h.dr⟩, ?_⟩
  · subst e
    exact h.map.fars r _ _ (fun e => h.rb e.symm)
  · intro x hx
    rcases List.mem_or_eq_of_mem_set hx with h1 | h1
    · exact h.fine.secs x h1
    · rw [h1]; exact hs
  · subst e
    have := only_setCells (World.grownBy.refl w (some r)) (k * 64) (strCells s)
    exact Turns.of_only this _
end

end Go.Proofs.Ytbclmkpigdeilaa
