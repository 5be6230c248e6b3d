/- Texts as bytes: numbers as bytes, the highest first; rows of bytes of a call's own; what a call turns. No function of the program is named here.
   Append onto a row of one's own: where the new row lies. No function of the program is named here. -/
import Derived.Test.YtpjfhbmegabafaaLBlock
import Derived.Lib.AppendStr
import Derived.Laws.IdiomStrings
import Derived.Laws.BytesArg
import Derived.OwnWalk
namespace Go.Proofs.Ytpjfhbmegabafaa
open Go.RowKit
open Go.Lib (strCells strCells_length strCells_oneCell)

/-- x as so many bytes, the highest first. -/
def beL (size x : Nat) : List UInt8 := (List.range size).map fun i => UInt8.ofNat (x / 256 ^ (size - 1 - i))
def be (size x : Nat) : ByteArray := ⟨(beL size x).toArray⟩
/-- The number whose bytes these are. -/
def numL (l : List UInt8) : Nat := l.foldl (fun n b => 256 * n + b.toNat) 0
def num (s : ByteArray) : Nat := numL s.data.toList

theorem bytes_ext {a b : ByteArray} (h : a.data.toList = b.data.toList) : a = b := by
  apply ByteArray.ext
  exact Array.toList_inj.1 h

theorem mk_data (l : List UInt8) : (⟨l.toArray⟩ : ByteArray).data.toList = l := rfl
theorem data_append (a b : ByteArray) : (a ++ b).data.toList = a.data.toList ++ b.data.toList := by rw [ByteArray.data_append, Array.toList_append]
theorem data_length (a : ByteArray) : a.data.toList.length = a.size := by rw [Array.length_toList]; rfl
theorem append_assoc (a b c : ByteArray) : a ++ b ++ c = a ++ (b ++ c) := bytes_ext (by simp only [data_append, List.append_assoc])
theorem size_append (a b : ByteArray) : (a ++ b).size = a.size + b.size := by simp [ByteArray.size_append]

theorem strCells_append (a b : ByteArray) : strCells (a ++ b) = strCells a ++ strCells b := by
  unfold strCells
  rw [data_append, List.map_append]

theorem beL_length (size x : Nat) : (beL size x).length = size := by simp [beL]
theorem be_size (size x : Nat) : (be size x).size = size := by
  rw [← data_length]
  exact beL_length size x

/-- What a call turns of what was there: block g and row r at most. -/
structure Turns (w w' : World) (g : Nat) (r : Option Nat) : Prop where
  os : w'.os = w.os
  tape : w'.tape = w.tape
  output : w'.output = w.output
  size : w.heap.size ≤ w'.heap.size
  block : ∀ k, k < w.heap.size → k ≠ g → some k ≠ r → w'.heap[k]? = w.heap[k]?

/-- A row that was there, or a new one. -/
def Fresh (w : World) (r r' : Option Nat) : Prop := r' = r ∨ ∃ k, r' = some k ∧ w.heap.size ≤ k

section
variable {w w1 w2 w' : World} {g B : Nat} {r r' r2 : Option Nat}

theorem Turns.refl (w : World) (g : Nat) (r : Option Nat) : Turns w w g r := ⟨rfl, rfl, rfl, Nat.le_refl _, fun _ _ _ _ => rfl⟩
theorem Turns.of_below (h : Below w.heap.size w w') (g : Nat) (r : Option Nat) : Turns w w' g r := ⟨h.os, h.tape, h.output, h.size, fun k hk _ _ => h.block k hk⟩
theorem Turns.of_only (h : w.grownBy w' (some g)) (r : Option Nat) : Turns w w' g r := ⟨h.os, h.tape, h.output, h.size, fun k hk hg _ => h.block k hk (fun e => hg (by injection e))⟩
theorem Turns.of_grown (h : w.grownBy w' r) (g : Nat) : Turns w w' g r := ⟨h.os, h.tape, h.output, h.size, fun k hk _ hr => h.block k hk hr⟩
theorem Turns.trans (h : Turns w w1 g r) (hf : Fresh w r r') (k : Turns w1 w2 g r') : Turns w w2 g r :=
  ⟨k.os.trans h.os, k.tape.trans h.tape, k.output.trans h.output, Nat.le_trans h.size k.size, fun i hi hg hr => by
    rw [k.block i (Nat.lt_of_lt_of_le hi h.size) hg ?_, h.block i hi hg hr]
    rcases hf with e | ⟨q, e, hq⟩
    · rw [e]; exact hr
    · rw [e]; intro he; injection he with he; omega⟩
theorem Turns.drew (h : Turns w w' g r) : Turns w w'.drew g r := ⟨h.os, h.tape, h.output, h.size, h.block⟩
theorem Turns.drewN (h : Turns w w' g r) (m : Nat) : Turns w (w'.drewN m) g r := ⟨h.os, h.tape, h.output, h.size, h.block⟩
theorem Turns.alloc (h : Turns w w' g r) (o : Obj) : Turns w (w'.alloc o) g r :=
  ⟨h.os, h.tape, h.output, by have := h.size; simp; omega, fun k hk hg hr => by
    rw [Below.heap_alloc w' o k (Nat.lt_of_lt_of_le hk h.size)]
    exact h.block k hk hg hr⟩
theorem Turns.setCell (h : Turns w w' g r) (i : Nat) (v : Value) : Turns w (w'.setCell ⟨g, i, none⟩ v) g r :=
  ⟨h.os, h.tape, h.output, by simpa [World.setCell] using h.size, fun k hk hg hr => by
    rw [Below.heap_setCell w' ⟨g, i, none⟩ v k hg]
    exact h.block k hk hg hr⟩
theorem Turns.below (h : Turns w w' g r) (hg : B ≤ g) (hr : ∀ k, r = some k → B ≤ k) (hB : B ≤ w.heap.size) : Below B w w' :=
  ⟨h.os, h.tape, h.output, h.size, fun k hk => h.block k (Nat.lt_of_lt_of_le hk hB) (by omega) (fun e => by have := hr k e.symm; omega)⟩
theorem Turns.holds {g' : Nat} {t : TypeId} {cs : List Value} (h : Turns w w' g r) (hh : Holds w g' t cs) (hg : g' ≠ g) (hr : some g' ≠ r) : Holds w' g' t cs := (h.block g' hh.lt hg hr).trans hh
theorem Fresh.trans (h : Fresh w r r') (k : Fresh w1 r' r2) (hs : w.heap.size ≤ w1.heap.size) : Fresh w r r2 := by
  rcases k with e | ⟨q, e, hq⟩
  · rw [e]; exact h
  · exact .inr ⟨q, e, Nat.le_trans hs hq⟩
theorem Fresh.ge (h : Fresh w r r') (hr : ∀ k, r = some k → B ≤ k) (hB : B ≤ w.heap.size) : ∀ k, r' = some k → B ≤ k := by
  intro k hk
  rcases h with e | ⟨q, e, hq⟩
  · exact hr k (e ▸ hk)
  · have : q = k := by rw [e] at hk; injection hk
    omega
end

/-- The row of bytes s that value v owns. -/
def Row (w : World) (e : TypeId) (s : ByteArray) (A : Option Addr) (c : Nat) : Prop := w.ownsRow 0 e 1 (.slice A s.size c) s.size (strCells s)

/-- A thing that writes bytes: its block g holds the slice that owns them; r is its row's block. -/
def Wr (w : World) (t e : TypeId) (g : Nat) (s : ByteArray) (r : Option Nat) : Prop :=
  ∃ A c, Holds w g t [.slice A s.size c] ∧ Row w e s A c ∧ (Value.slice A s.size c).ownBlock = r ∧ r ≠ some g

section
variable {P : Program} {w w' : World} {t e : TypeId} {g : Nat} {s : ByteArray} {r : Option Nat}

theorem Wr.lt (h : Wr w t e g s r) : g < w.heap.size ∧ ∀ k, r = some k → k < w.heap.size := by
  obtain ⟨A, c, h1, h2, rfl, _⟩ := h
  exact ⟨h1.lt, fun k hk => (h2.lt k hk).2⟩

theorem Wr.other {g' : Nat} {r' : Option Nat} (h : Wr w t e g s r) (hg : g ≠ g') (hr : some g ≠ r') (hr1 : r ≠ some g') (hr2 : r = none ∨ r ≠ r') (ht : Turns w w' g' r') : Wr w' t e g s r := by
  obtain ⟨A, c, h1, h2, rfl, h3⟩ := h
  refine ⟨A, c, ht.holds h1 hg hr, ⟨h2.1, ?_⟩, rfl, h3⟩
  rcases h2.2 with hn | ⟨q, cap, cur, hv, hb, hq, rest⟩
  · exact .inl hn
  · refine .inr ⟨q, cap, cur, hv, hb, ?_, rest⟩
    rw [hv] at hr1 hr2
    simp only [Value.ownBlock] at hr1 hr2
    rw [ht.block q (Array.getElem?_eq_some_iff.1 hq).1 (fun e => hr1 (by rw [e])) (by rcases hr2 with h | h; cases h; exact h)]
    exact hq

theorem Row.keep {A : Option Addr} {c : Nat} (h : Row w e s A c) (hb : Below w.heap.size w w') : Row w' e s A c := by
  refine ⟨h.1, ?_⟩
  rcases h.2 with hn | ⟨q, cap, cur, hv, hbq, hq, rest⟩
  · exact .inl hn
  · exact .inr ⟨q, cap, cur, hv, hbq, (hb.block q (Array.getElem?_eq_some_iff.1 hq).1).trans hq, rest⟩

/-- A store into another block. -/
theorem Row.set {A : Option Addr} {c : Nat} (h : Row w e s A c) {g : Nat} (hg : (Value.slice A s.size c).ownBlock ≠ some g) (i : Nat) (v : Value) : Row (w.setCell ⟨g, i, none⟩ v) e s A c := by
  refine ⟨h.1, ?_⟩
  rcases h.2 with hn | ⟨q, cap, cur, hv, hb, hq, rest⟩
  · exact .inl hn
  · refine .inr ⟨q, cap, cur, hv, hb, ?_, rest⟩
    rw [hv] at hg
    exact (heap_setCell_other w _ q _ (fun e => hg (by simp only [Value.ownBlock]; exact congrArg some e))).trans hq

theorem Fresh.ne {r r' : Option Nat} (h : Fresh w r r') (hr : r ≠ some g) (hg : g < w.heap.size) : r' ≠ some g := by
  rcases h with h | ⟨k, h, hk⟩
  · rw [h]; exact hr
  · rw [h]
    intro e
    injection e with e
    omega
theorem Fresh.back {r r' : Option Nat} (h : Fresh w' r r') (hs : w.heap.size ≤ w'.heap.size) : Fresh w r r' := by
  rcases h with h | ⟨k, h, hk⟩
  · exact .inl h
  · exact .inr ⟨k, h, Nat.le_trans hs hk⟩

/-- Another text is held; the block holds the new slice. -/
theorem Wr.push {w w0 w1 : World} {t e : TypeId} {g : Nat} {s sp : ByteArray} {A A' : Option Addr} {c c' : Nat} (hb : Below w.heap.size w w0) (hH : Holds w0 g t [.slice A s.size c]) (hlt : g < w.heap.size) (hr : (Value.slice A s.size c).ownBlock ≠ some g)
    (hR : Row w1 e sp A' c') (hg : w0.grownBy w1 (Value.slice A s.size c).ownBlock) (hf : Fresh w0 (Value.slice A s.size c).ownBlock (Value.slice A' sp.size c').ownBlock) :
    Wr (w1.setCell ⟨g, 0, none⟩ (.slice A' sp.size c')) t e g sp (Value.slice A' sp.size c').ownBlock ∧ Fresh w (Value.slice A s.size c).ownBlock (Value.slice A' sp.size c').ownBlock ∧
      Turns w (w1.setCell ⟨g, 0, none⟩ (.slice A' sp.size c')) g (Value.slice A s.size c).ownBlock := by
  have hH1 := hH.grown hg hr.symm
  have hne := hf.ne hr (Nat.lt_of_lt_of_le hlt hb.size)
  exact ⟨⟨A', c', hH1.set 0 _, hR.set hne 0 _, rfl, hne⟩, hf.back hb.size, (Turns.of_below hb g _).trans (.inl rfl) ((Turns.of_grown hg g).setCell 0 _)⟩

theorem Wr.keep (h : Wr w t e g s r) (hb : Below w.heap.size w w') : Wr w' t e g s r := by
  obtain ⟨A, c, h1, h2, rfl, h3⟩ := h
  refine ⟨A, c, h1.below hb h1.lt, ⟨h2.1, ?_⟩, rfl, h3⟩
  rcases h2.2 with hn | ⟨q, cap, cur, hv, hbq, hq, rest⟩
  · exact .inl hn
  · exact .inr ⟨q, cap, cur, hv, hbq, (hb.block q (Array.getElem?_eq_some_iff.1 hq).1).trans hq, rest⟩

/-- 'string(b)' of a row of bytes. -/
theorem run_convert_row (src dst : TypeId) (hs : P.underlying src = some (.slice e)) (he : P.underlying e = some (.int .u8)) (hd : P.underlying dst = some .string) {A : Option Addr} {c n : Nat} (hn : n = s.size) (h : Row w e s A c) :
    (convert src dst (.slice A n c)).run P w = .ok (.string s) w := by
  subst hn
  have hl : (strCells s).length = s.size := strCells_length s
  rcases h.2 with ⟨hv, h0⟩ | ⟨q, cap, cur, hv, _, hq, hn, _, hsz, htake⟩
  · injection hv with h1 h2 h3
    subst h1
    rw [run_convert_bytes_nil w src e hs he _ _ dst hd]
    congr 2
    exact (bytes_ext (by rw [List.eq_nil_of_length_eq_zero (l := s.data.toList) (by rw [data_length]; exact h0)]; rfl))
  · injection hv with h1 _ h2
    subst h1 h2
    have hc := h.cells (g := q) rfl
    have := run_convert_bytes_back (P := P) w src dst e ⟨q, 0, none⟩ c s.data.toList hs he hd (fun j hj => by
      rw [hc j (.int .u8 (s.data.toList[j].toNat : Int)) (by unfold strCells; rw [List.getElem?_map, List.getElem?_eq_getElem hj]; rfl)])
    rw [data_length] at this
    rw [this]

/-- 'string(b)' of a block that is known whole. -/
theorem run_convert_block (src dst : TypeId) (hs : P.underlying src = some (.slice e)) (he : P.underlying e = some (.int .u8)) (hd : P.underlying dst = some .string) {g c n : Nat} {cs : Array Value} {fr : Nat × Nat} (hn : n = s.size)
    (hb : w.heap[g]? = some (.cells cs t fr)) (hc : cs.toList = strCells s) : (convert src dst (.slice (some ⟨g, 0, none⟩) n c)).run P w = .ok (.string s) w := by
  subst hn
  have := run_convert_bytes_back (P := P) w src dst e ⟨g, 0, none⟩ c s.data.toList hs he hd (fun j hj => by
    have e0 : (⟨g, 0, none⟩ : Addr).add j = ⟨g, j, none⟩ := by
      unfold Addr.add
      by_cases h0 : j = 0 <;> simp [h0]
    rw [e0, cell_of_row w g j cs t fr hb, ← Array.getElem?_toList, hc]
    unfold strCells
    rw [List.getElem?_map, List.getElem?_eq_getElem hj]
    rfl)
  rw [data_length] at this
  rw [this]
end

theorem row_form {w : World} {e : TypeId} {s : ByteArray} {n : Nat} {v : Value} (h : w.ownsRow 0 e 1 v n (strCells s)) : ∃ A c, v = .slice A s.size c ∧ Row w e s A c := by
  obtain rfl : s.size = n := by
    have := h.1
    rw [strCells_length] at this
    omega
  rcases h.2 with ⟨rfl, h0⟩ | ⟨g, cap, cur, rfl, rest⟩
  · refine ⟨none, 0, by rw [h0], ?_⟩
    unfold Row
    rw [← h0] at h ⊢
    exact h
  · exact ⟨_, _, rfl, h⟩

/-- n bytes 0. -/
def zeroS (n : Nat) : ByteArray := ⟨(List.replicate n 0).toArray⟩
theorem zeroS_size (n : Nat) : (zeroS n).size = n := by
  rw [← data_length]
  simp [zeroS]
theorem zeroS_cells (n : Nat) : strCells (zeroS n) = List.replicate n (.int .u8 0) := by
  unfold strCells zeroS
  rw [mk_data, List.map_replicate]
  rfl

section
variable {P : Program} {ops : Array Oper} {o : Oper} {a : Act} {w : World} {Q : Exit → Act → World → Prop}
/-- The operation that writes this slot stands next: a guard for an arm of the walk. -/
theorem at_slot (d : Option Nat) {op : Op} {ty : TypeId} {pos : String} {after : Array Edge} {gd : Option (Nat × Bool)} {rest : List Oper} (h : wpList P ops Q (⟨d, op, ty, pos, after, gd⟩ :: rest) a w) :
    wpList P ops Q (⟨d, op, ty, pos, after, gd⟩ :: rest) a w := h

/-- 'make([]byte, n)'. -/
theorem wpList_make_zeros {rest : List Oper} (hgd : o.guard = none) (l c : Operand) (t : TypeId) (hop : o.op = Op.makeSlice t l c) (e : TypeId) (i : TypeInfo) (ht : P.underlying t = some (.slice e)) (hi : P.info? e = some i)
    (hz : i.zero = some (.int .u8 0)) (hsize : i.size = 1) (hby : i.bytes = 1) (L : Int) (n : Nat) (hl : a.eval l = .int .i64 L) (hc : a.eval c = .int .i64 L) (hL : L = (n : Int)) (hn : n ≤ 1000000000000) (s : ByteArray) (hs : zeroS n = s)
    (h : ∀ w', Row w' e s (some ⟨w.heap.size, 0, none⟩) n → Below w.heap.size w w' → wpList P ops Q rest (a.put o.dst (.slice (some ⟨w.heap.size, 0, none⟩) n n)) w') : wpList P ops Q (o :: rest) a w :=
  wpList_make_full w hgd l c t hop 0 e i (.int .u8 0) 1 ht hi hz hsize .i64 .i64 L L n hl hc hL hL (by rw [hby]; omega) (by unfold maxLen; omega) (Nat.zero_le _) fun w' hown hg => by
    have hc0 : (Value.int .u8 0).cells = #[.int .u8 0] := rfl
    rw [hc0, Nat.mul_one, toList_madeCells_one] at hown
    refine h w' ?_ ((Below.refl _ _).grown hg (Nat.le_refl _) (fun k h => by cases h))
    subst hs
    unfold Row
    rw [zeroS_size, zeroS_cells]
    exact hown

/-- A conversion whose run is known. -/
theorem wpList_convert {rest : List Oper} (hgd : o.guard = none) (src dst : TypeId) (x : Operand) (ho : o.op = .convert src dst x) (v u : Value) (w' : World) (hx : a.eval x = v) (hrun : (convert src dst v).run P w = .ok u w')
    (h : wpList P ops Q rest (a.put o.dst u) w') : wpList P ops Q (o :: rest) a w :=
  wpList_run hgd u w' (by unfold execOp; simp only [ho, hx, Sem.run_bind, hrun, Result.andThen_ok, Sem.run_pure]) h
end

end Go.Proofs.Ytpjfhbmegabafaa
namespace Go.Proofs.Ytpjfhbmegabafaa
open Go.RowKit

/-- append of cells onto a row of one's own: where the new row lies, too. -/
theorem run_append_fresh {P : Program} (w : World) (base : Nat) (t ty e : TypeId) (i : TypeInfo) (z : Value) (ht : P.underlying t = some (.slice e)) (hi : P.info? e = some i) (hz : i.zero = some z)
    (hzs : z.cells.size = i.size) (hsz : 0 < i.size) (A : Option Addr) (n c0 : Nat) (xs : List Value) (hown : w.ownsRow base e i.size (.slice A n c0) n xs)
    (a : Addr) (m c : Nat) (news : List Value) (hm : 0 < m) (hl : news.length = m * i.size) (hnews : ∀ j u, news[j]? = some u → w.cell? (a.add j) = some u) (h1 : ∀ u ∈ news, u.oneCell' = true)
    (h63 : n + m ≤ 10000000000000) (hbytes : (n + m) * i.bytes ≤ 140737488355328) (hbase : base ≤ w.heap.size) :
    ∃ A' c' w', (Builtin.append_ #[t, t] ty #[.slice A n c0, .slice (some a) m c]).run P w = .ok (.slice A' (n + m) c') w' ∧ w'.ownsRow base e i.size (.slice A' (n + m) c') (n + m) (xs ++ news) ∧ w.grownBy w' (Value.slice A n c0).ownBlock ∧
      Fresh w (Value.slice A n c0).ownBlock (Value.slice A' (n + m) c').ownBlock := by
  have h63' : n + m ≤ maxLen := by unfold maxLen; omega
  obtain ⟨v', w', hrun, hown', hg, _⟩ := run_append_own (P := P) w base t ty e i z i.size i.bytes ht hi hz rfl rfl hzs hsz _ n xs hown a m c news hl hnews h1 h63' hbytes hbase
  obtain ⟨A', c', rfl⟩ : ∃ A' c', v' = .slice A' (n + m) c' := by
    rcases hown'.2 with ⟨_, h0⟩ | ⟨g, cap, cur, hv, _⟩
    · omega
    · exact ⟨_, _, hv⟩
  refine ⟨A', c', w', hrun, hown', hg, ?_⟩
  rcases hown.2 with ⟨hv, h0⟩ | ⟨g, cap, cur, hv, hb, hq, hnc, hcm, hcs, htake⟩
  · right
    subst h0
    have hx : xs = [] := List.eq_nil_of_length_eq_zero (by simpa using hown.1)
    subst hx
    have hr := run_append_nil (P := P) w t ty e i z ht hi hz a m c news hl hnews (by omega) (by omega) (by have hb := hbytes; simp only [Nat.zero_add] at hb; omega)
    rw [hv, hr] at hrun
    injection hrun with h1 h2
    rw [← h1]
    exact ⟨_, rfl, Nat.le_refl _⟩
  · injection hv with e1 _ e2
    subst e1 e2
    by_cases hroom : n + m ≤ c0
    · left
      have hfit : n * i.size + news.length ≤ cur.size := by rw [hl, hcs, ← Nat.add_mul]; exact Nat.mul_le_mul_right _ hroom
      have hr := run_append_room (P := P) w t ty e i ht hi g n c0 cur hq a m c news hl hnews h1 hroom hfit
      rw [hr] at hrun
      injection hrun with h1 h2
      rw [← h1]
      rfl
    · right
      have holds : ∀ j u, xs[j]? = some u → w.cell? ((⟨g, 0, none⟩ : Addr).add j) = some u := hown.cells (g := g) rfl
      have hr := run_append_grow (P := P) w t ty e i z ht hi hz ⟨g, 0, none⟩ n c0 xs hown.1 holds a m c news hl hnews (by omega) (by omega) (growslice_fits (by omega) hbytes)
      rw [hr] at hrun
      injection hrun with h1 h2
      rw [← h1]
      exact ⟨_, rfl, Nat.le_refl _⟩

end Go.Proofs.Ytpjfhbmegabafaa
