/- Texts as bytes: numbers as bytes, the highest first; rows of bytes of a call's own; what a call turns. No function of the program is named here. -/
import Derived.Test.YtmgaegaibglnhaaGreatBlock
import Derived.Lib.AppendStr
import Derived.Laws.IdiomStrings
import Derived.Laws.BytesArg
import Derived.OwnWalk
namespace Go.Proofs.YtmgaegaibglnhaaGreat
open Go.RowKit
open Go.Lib (strCells strCells_length strCells_oneCell)

/-- x as so many bytes, the highest first. -/
def beL (size x : Nat) : List UInt8 := (List.range size).map fun i => UInt8.ofNat (x / 256 ^ (size - 1 - i))
def be (size x : Nat) : ByteArray := ⟨(beL size x).toArray⟩
/-- The number whose bytes these are. -/
def numL (l : List UInt8) : Nat := l.foldl (fun n b => 256 * n + b.toNat) 0
def num (s : ByteArray) : Nat := numL s.data.toList

theorem bytes_ext {a b : ByteArray} (h : a.data.toList = b.data.toList) : a = b := by
  apply ByteArray.ext
  exact Array.toList_inj.1 h

theorem mk_data (l : List UInt8) : (⟨l.toArray⟩ : ByteArray).data.toList = l := rfl
theorem data_append (a b : ByteArray) : (a ++ b).data.toList = a.data.toList ++ b.data.toList := by rw [ByteArray.data_append, Array.toList_append]
theorem data_length (a : ByteArray) : a.data.toList.length = a.size := by rw [Array.length_toList]; rfl
theorem append_assoc (a b c : ByteArray) : a ++ b ++ c = a ++ (b ++ c) := bytes_ext (by simp only [data_append, List.append_assoc])
theorem append_empty (a : ByteArray) : a ++ ByteArray.empty = a := bytes_ext (by rw [data_append]; exact List.append_nil _)
theorem empty_append (a : ByteArray) : ByteArray.empty ++ a = a := bytes_ext (by rw [data_append]; rfl)
theorem size_append (a b : ByteArray) : (a ++ b).size = a.size + b.size := by simp [ByteArray.size_append]

theorem strCells_append (a b : ByteArray) : strCells (a ++ b) = strCells a ++ strCells b := by
  unfold strCells
  rw [data_append, List.map_append]

theorem beL_length (size x : Nat) : (beL size x).length = size := by simp [beL]
theorem be_size (size x : Nat) : (be size x).size = size := by
  rw [← data_length]
  exact beL_length size x

theorem beL_succ (size x : Nat) : beL (size + 1) x = beL size (x / 256) ++ [UInt8.ofNat x] := by
  unfold beL
  rw [List.range_succ, List.map_append]
  congr 1
  · apply List.map_congr_left
    intro i hi
    have hi' : i < size := by simpa using hi
    have e : size + 1 - 1 - i = (size - 1 - i) + 1 := by omega
    rw [e, Nat.pow_succ, Nat.mul_comm, ← Nat.div_div_eq_div_mul]
  · simp

theorem numL_snoc (l : List UInt8) (b : UInt8) : numL (l ++ [b]) = 256 * numL l + b.toNat := by simp [numL]

theorem numL_be (size x : Nat) (h : x < 256 ^ size) : numL (beL size x) = x := by
  induction size generalizing x with
  | zero =>
    have : x = 0 := by simpa using h
    subst this
    rfl
  | succ n ih =>
    rw [beL_succ, numL_snoc, ih (x / 256) (by rw [Nat.pow_succ] at h; exact Nat.div_lt_of_lt_mul (by rw [Nat.mul_comm]; exact h))]
    have : (UInt8.ofNat x).toNat = x % 256 := by simp
    rw [this]
    omega

theorem num_be (size x : Nat) (h : x < 256 ^ size) : num (be size x) = x := numL_be size x h

theorem numL_lt (l : List UInt8) : numL l < 256 ^ l.length := by
  suffices h : ∀ (l : List UInt8) (n : Nat), l.foldl (fun n b => 256 * n + b.toNat) n < (n + 1) * 256 ^ l.length by
    have := h l 0
    simpa [numL] using this
  intro l
  induction l with
  | nil => intro n; simp
  | cons b l ih =>
    intro n
    have h1 := ih (256 * n + b.toNat)
    have hb := b.toNat_lt
    rw [List.foldl_cons, List.length_cons, Nat.pow_succ]
    refine Nat.lt_of_lt_of_le h1 ?_
    rw [Nat.mul_comm (256 ^ l.length) 256, ← Nat.mul_assoc]
    exact Nat.mul_le_mul_right _ (by omega)

theorem num_lt (s : ByteArray) : num s < 256 ^ s.size := by
  have := numL_lt s.data.toList
  rwa [data_length] at this

/-- What a call turns of what was there: block g and row r at most. -/
structure Turns (w w' : World) (g : Nat) (r : Option Nat) : Prop where
  os : w'.os = w.os
  tape : w'.tape = w.tape
  output : w'.output = w.output
  size : w.heap.size ≤ w'.heap.size
  block : ∀ k, k < w.heap.size → k ≠ g → some k ≠ r → w'.heap[k]? = w.heap[k]?

/-- A row that was there, or a new one. -/
def Fresh (w : World) (r r' : Option Nat) : Prop := r' = r ∨ ∃ k, r' = some k ∧ w.heap.size ≤ k

section
variable {w w1 w2 w' : World} {g B : Nat} {r r' r2 : Option Nat}

theorem Turns.refl (w : World) (g : Nat) (r : Option Nat) : Turns w w g r := ⟨rfl, rfl, rfl, Nat.le_refl _, fun _ _ _ _ => rfl⟩
theorem Turns.of_below (h : Below w.heap.size w w') (g : Nat) (r : Option Nat) : Turns w w' g r := ⟨h.os, h.tape, h.output, h.size, fun k hk _ _ => h.block k hk⟩
theorem Turns.of_only (h : w.grownBy w' (some g)) (r : Option Nat) : Turns w w' g r := ⟨h.os, h.tape, h.output, h.size, fun k hk hg _ => h.block k hk (fun e => hg (by injection e))⟩
theorem Turns.of_grown (h : w.grownBy w' r) (g : Nat) : Turns w w' g r := ⟨h.os, h.tape, h.output, h.size, fun k hk _ hr => h.block k hk hr⟩
theorem Turns.trans (h : Turns w w1 g r) (hf : Fresh w r r') (k : Turns w1 w2 g r') : Turns w w2 g r :=
  ⟨k.os.trans h.os, k.tape.trans h.tape, k.output.trans h.output, Nat.le_trans h.size k.size, fun i hi hg hr => by
    rw [k.block i (Nat.lt_of_lt_of_le hi h.size) hg ?_, h.block i hi hg hr]
    rcases hf with e | ⟨q, e, hq⟩
    · rw [e]; exact hr
    · rw [e]; intro he; injection he with he; omega⟩
theorem Turns.drew (h : Turns w w' g r) : Turns w w'.drew g r := ⟨h.os, h.tape, h.output, h.size, h.block⟩
theorem Turns.drewN (h : Turns w w' g r) (m : Nat) : Turns w (w'.drewN m) g r := ⟨h.os, h.tape, h.output, h.size, h.block⟩
theorem Turns.alloc (h : Turns w w' g r) (o : Obj) : Turns w (w'.alloc o) g r :=
  ⟨h.os, h.tape, h.output, by have := h.size; simp; omega, fun k hk hg hr => by
    rw [Below.heap_alloc w' o k (Nat.lt_of_lt_of_le hk h.size)]
    exact h.block k hk hg hr⟩
theorem Turns.setCell (h : Turns w w' g r) (i : Nat) (v : Value) : Turns w (w'.setCell ⟨g, i, none⟩ v) g r :=
  ⟨h.os, h.tape, h.output, by simpa [World.setCell] using h.size, fun k hk hg hr => by
    rw [Below.heap_setCell w' ⟨g, i, none⟩ v k hg]
    exact h.block k hk hg hr⟩
theorem Turns.below (h : Turns w w' g r) (hg : B ≤ g) (hr : ∀ k, r = some k → B ≤ k) (hB : B ≤ w.heap.size) : Below B w w' :=
  ⟨h.os, h.tape, h.output, h.size, fun k hk => h.block k (Nat.lt_of_lt_of_le hk hB) (by omega) (fun e => by have := hr k e.symm; omega)⟩
theorem Turns.holds {g' : Nat} {t : TypeId} {cs : List Value} (h : Turns w w' g r) (hh : Holds w g' t cs) (hg : g' ≠ g) (hr : some g' ≠ r) : Holds w' g' t cs := (h.block g' hh.lt hg hr).trans hh
theorem Fresh.trans (h : Fresh w r r') (k : Fresh w1 r' r2) (hs : w.heap.size ≤ w1.heap.size) : Fresh w r r2 := by
  rcases k with e | ⟨q, e, hq⟩
  · rw [e]; exact h
  · exact .inr ⟨q, e, Nat.le_trans hs hq⟩
theorem Fresh.ge (h : Fresh w r r') (hr : ∀ k, r = some k → B ≤ k) (hB : B ≤ w.heap.size) : ∀ k, r' = some k → B ≤ k := by
  intro k hk
  rcases h with e | ⟨q, e, hq⟩
  · exact hr k (e ▸ hk)
  · have : q = k := by rw [e] at hk; injection hk
    omega
end

/-- The row of bytes s that value v owns. -/
def Row (w : World) (e : TypeId) (s : ByteArray) (A : Option Addr) (c : Nat) : Prop := w.ownsRow 0 e 1 (.slice A s.size c) s.size (strCells s)

/-- A thing that writes bytes: its block g holds the slice that owns them; r is its row's block. -/
def Wr (w : World) (t e : TypeId) (g : Nat) (s : ByteArray) (r : Option Nat) : Prop :=
  ∃ A c, Holds w g t [.slice A s.size c] ∧ Row w e s A c ∧ (Value.slice A s.size c).ownBlock = r ∧ r ≠ some g

section
variable {P : Program} {w w' : World} {t e : TypeId} {g : Nat} {s : ByteArray} {r : Option Nat}

theorem Wr.lt (h : Wr w t e g s r) : g < w.heap.size ∧ ∀ k, r = some k → k < w.heap.size := by
  obtain ⟨A, c, h1, h2, rfl, _⟩ := h
  exact ⟨h1.lt, fun k hk => (h2.lt k hk).2⟩

theorem Wr.other {g' : Nat} {r' : Option Nat} (h : Wr w t e g s r) (hg : g ≠ g') (hr : some g ≠ r') (hr1 : r ≠ some g') (hr2 : r = none ∨ r ≠ r') (ht : Turns w w' g' r') : Wr w' t e g s r := by
  obtain ⟨A, c, h1, h2, rfl, h3⟩ := h
  refine ⟨A, c, ht.holds h1 hg hr, ⟨h2.1, ?_⟩, rfl, h3⟩
  rcases h2.2 with hn | ⟨q, cap, cur, hv, hb, hq, rest⟩
  · exact .inl hn
  · refine .inr ⟨q, cap, cur, hv, hb, ?_, rest⟩
    rw [hv] at hr1 hr2
    simp only [Value.ownBlock] at hr1 hr2
    rw [ht.block q (Array.getElem?_eq_some_iff.1 hq).1 (fun e => hr1 (by rw [e])) (by rcases hr2 with h | h; cases h; exact h)]
    exact hq

theorem Row.keep {A : Option Addr} {c : Nat} (h : Row w e s A c) (hb : Below w.heap.size w w') : Row w' e s A c := by
  refine ⟨h.1, ?_⟩
  rcases h.2 with hn | ⟨q, cap, cur, hv, hbq, hq, rest⟩
  · exact .inl hn
  · exact .inr ⟨q, cap, cur, hv, hbq, (hb.block q (Array.getElem?_eq_some_iff.1 hq).1).trans hq, rest⟩

theorem row_some {A : Option Addr} {c : Nat} (h : Row w e s A c) (h0 : 0 < s.size) : ∃ q, A = some ⟨q, 0, none⟩ ∧ s.size ≤ c := by
  rcases h.2 with ⟨hv, h1⟩ | ⟨q, cap, cur, hv, hb, hq, hn, rest⟩
  · omega
  · injection hv with h1 _ h2
    exact ⟨q, h1, by omega⟩

/-- A store into another block. -/
theorem Row.set {A : Option Addr} {c : Nat} (h : Row w e s A c) {g : Nat} (hg : (Value.slice A s.size c).ownBlock ≠ some g) (i : Nat) (v : Value) : Row (w.setCell ⟨g, i, none⟩ v) e s A c := by
  refine ⟨h.1, ?_⟩
  rcases h.2 with hn | ⟨q, cap, cur, hv, hb, hq, rest⟩
  · exact .inl hn
  · refine .inr ⟨q, cap, cur, hv, hb, ?_, rest⟩
    rw [hv] at hg
    exact (heap_setCell_other w _ q _ (fun e => hg (by simp only [Value.ownBlock]; exact congrArg some e))).trans hq

theorem Fresh.ne {r r' : Option Nat} (h : Fresh w r r') (hr : r ≠ some g) (hg : g < w.heap.size) : r' ≠ some g := by
  rcases h with h | ⟨k, h, hk⟩
  · rw [h]; exact hr
  · rw [h]
    intro e
    injection e with e
    omega
theorem Fresh.back {r r' : Option Nat} (h : Fresh w' r r') (hs : w.heap.size ≤ w'.heap.size) : Fresh w r r' := by
  rcases h with h | ⟨k, h, hk⟩
  · exact .inl h
  · exact .inr ⟨k, h, Nat.le_trans hs hk⟩

/-- Another text is held; the block holds the new slice. -/
theorem Wr.push {w w0 w1 : World} {t e : TypeId} {g : Nat} {s sp : ByteArray} {A A' : Option Addr} {c c' : Nat} (hb : Below w.heap.size w w0) (hH : Holds w0 g t [.slice A s.size c]) (hlt : g < w.heap.size) (hr : (Value.slice A s.size c).ownBlock ≠ some g)
    (hR : Row w1 e sp A' c') (hg : w0.grownBy w1 (Value.slice A s.size c).ownBlock) (hf : Fresh w0 (Value.slice A s.size c).ownBlock (Value.slice A' sp.size c').ownBlock) :
    Wr (w1.setCell ⟨g, 0, none⟩ (.slice A' sp.size c')) t e g sp (Value.slice A' sp.size c').ownBlock ∧ Fresh w (Value.slice A s.size c).ownBlock (Value.slice A' sp.size c').ownBlock ∧
      Turns w (w1.setCell ⟨g, 0, none⟩ (.slice A' sp.size c')) g (Value.slice A s.size c).ownBlock := by
  have hH1 := hH.grown hg hr.symm
  have hne := hf.ne hr (Nat.lt_of_lt_of_le hlt hb.size)
  exact ⟨⟨A', c', hH1.set 0 _, hR.set hne 0 _, rfl, hne⟩, hf.back hb.size, (Turns.of_below hb g _).trans (.inl rfl) ((Turns.of_grown hg g).setCell 0 _)⟩

theorem Wr.keep (h : Wr w t e g s r) (hb : Below w.heap.size w w') : Wr w' t e g s r := by
  obtain ⟨A, c, h1, h2, rfl, h3⟩ := h
  refine ⟨A, c, h1.below hb h1.lt, ⟨h2.1, ?_⟩, rfl, h3⟩
  rcases h2.2 with hn | ⟨q, cap, cur, hv, hbq, hq, rest⟩
  · exact .inl hn
  · exact .inr ⟨q, cap, cur, hv, hbq, (hb.block q (Array.getElem?_eq_some_iff.1 hq).1).trans hq, rest⟩

/-- 'string(b)' of a row of bytes. -/
theorem run_convert_row (src dst : TypeId) (hs : P.underlying src = some (.slice e)) (he : P.underlying e = some (.int .u8)) (hd : P.underlying dst = some .string) {A : Option Addr} {c n : Nat} (hn : n = s.size) (h : Row w e s A c) :
    (convert src dst (.slice A n c)).run P w = .ok (.string s) w := by
  subst hn
  have hl : (strCells s).length = s.size := strCells_length s
  rcases h.2 with ⟨hv, h0⟩ | ⟨q, cap, cur, hv, _, hq, hn, _, hsz, htake⟩
  · injection hv with h1 h2 h3
    subst h1
    rw [run_convert_bytes_nil w src e hs he _ _ dst hd]
    congr 2
    exact (bytes_ext (by rw [List.eq_nil_of_length_eq_zero (l := s.data.toList) (by rw [data_length]; exact h0)]; rfl))
  · injection hv with h1 _ h2
    subst h1 h2
    have hc := h.cells (g := q) rfl
    have := run_convert_bytes_back (P := P) w src dst e ⟨q, 0, none⟩ c s.data.toList hs he hd (fun j hj => by
      rw [hc j (.int .u8 (s.data.toList[j].toNat : Int)) (by unfold strCells; rw [List.getElem?_map, List.getElem?_eq_getElem hj]; rfl)])
    rw [data_length] at this
    rw [this]

/-- 'string(b)' of a block that is known whole. -/
theorem run_convert_block (src dst : TypeId) (hs : P.underlying src = some (.slice e)) (he : P.underlying e = some (.int .u8)) (hd : P.underlying dst = some .string) {g c n : Nat} {cs : Array Value} {fr : Nat × Nat} (hn : n = s.size)
    (hb : w.heap[g]? = some (.cells cs t fr)) (hc : cs.toList = strCells s) : (convert src dst (.slice (some ⟨g, 0, none⟩) n c)).run P w = .ok (.string s) w := by
  subst hn
  have := run_convert_bytes_back (P := P) w src dst e ⟨g, 0, none⟩ c s.data.toList hs he hd (fun j hj => by
    have e0 : (⟨g, 0, none⟩ : Addr).add j = ⟨g, j, none⟩ := by
      unfold Addr.add
      by_cases h0 : j = 0 <;> simp [h0]
    rw [e0, cell_of_row w g j cs t fr hb, ← Array.getElem?_toList, hc]
    unfold strCells
    rw [List.getElem?_map, List.getElem?_eq_getElem hj]
    rfl)
  rw [data_length] at this
  rw [this]
end

theorem row_form {w : World} {e : TypeId} {s : ByteArray} {n : Nat} {v : Value} (h : w.ownsRow 0 e 1 v n (strCells s)) : ∃ A c, v = .slice A s.size c ∧ Row w e s A c := by
  obtain rfl : s.size = n := by
    have := h.1
    rw [strCells_length] at this
    omega
  rcases h.2 with ⟨rfl, h0⟩ | ⟨g, cap, cur, rfl, rest⟩
  · refine ⟨none, 0, by rw [h0], ?_⟩
    unfold Row
    rw [← h0] at h ⊢
    exact h
  · exact ⟨_, _, rfl, h⟩

/-- append of a text's bytes onto a row of bytes: where the new row lies, too. -/
theorem run_append_row {P : Program} {w : World} (t u ty e : TypeId) (i : TypeInfo) (ht : P.underlying t = some (.slice e)) (hu : P.underlying u = some .string) (hi : P.info? e = some i) (hz : i.zero = some (.int .u8 0))
    (hsize : i.size = 1) (hby : i.bytes = 1) {s : ByteArray} {A : Option Addr} {c : Nat} (hR : Row w e s A c) (p : ByteArray) (hmax : s.size + p.size ≤ 1000000000000) :
    ∃ A' c' w', (Builtin.append_ #[t, u] ty #[.slice A s.size c, .string p]).run P w = .ok (.slice A' (s ++ p).size c') w' ∧ Row w' e (s ++ p) A' c' ∧ w.grownBy w' (Value.slice A s.size c).ownBlock ∧
      Fresh w (Value.slice A s.size c).ownBlock (Value.slice A' (s ++ p).size c').ownBlock := by
  obtain ⟨v', w', hrun, hown, hg, hn⟩ := Go.Lib.run_append_own_string (P := P) w 0 t u ty e i ht hu hi hz hsize hby _ s.size (strCells s) hR p (by unfold maxLen; omega) (by omega) (Nat.zero_le _)
  rw [← strCells_append] at hown
  obtain ⟨A', c', rfl, hR'⟩ := row_form hown
  refine ⟨A', c', w', hrun, hR', hg, ?_⟩
  rcases hR.2 with ⟨hv, h0⟩ | ⟨g, cap, cur, hv, hb, hq, hnc, hcm, hcs, htake⟩
  · by_cases hp : p.size = 0
    · left
      have := hn.2 ⟨hv, hp⟩
      rw [this, hv]
    · right
      have hr := run_append_nil_string (P := P) w t u ty e i (.int .u8 0) ht hu hi hz p (by omega) (by omega) (by rw [hby]; omega)
      rw [← hv] at hr
      rw [hr] at hrun
      injection hrun with h1 h2
      rw [← h1]
      exact ⟨_, rfl, Nat.le_refl _⟩
  · injection hv with h1 _ h2
    subst h1 h2
    by_cases hroom : s.size + p.size ≤ c
    · left
      have hr := Go.Lib.run_append_room_string (P := P) w t u ty e i ht hu hi hsize g s.size c cur hq p hroom (by omega)
      rw [hr] at hrun
      injection hrun with h1 h2
      rw [← h1]
      rfl
    · right
      have hxl : (strCells s).length = s.size := strCells_length s
      have hr := Go.Lib.run_append_grow_string (P := P) w t u ty e i (.int .u8 0) ht hu hi hz ⟨g, 0, none⟩ s.size c (strCells s) (by rw [hsize, hxl]; omega) (hR.cells (g := g) rfl) p (by omega) (by omega) (by rw [hby]; exact growslice_fits (by omega) (by omega))
      rw [hr] at hrun
      injection hrun with h1 h2
      rw [← h1]
      exact ⟨_, rfl, Nat.le_refl _⟩

/-- n bytes 0. -/
def zeroS (n : Nat) : ByteArray := ⟨(List.replicate n 0).toArray⟩
theorem zeroS_size (n : Nat) : (zeroS n).size = n := by
  rw [← data_length]
  simp [zeroS]
theorem zeroS_cells (n : Nat) : strCells (zeroS n) = List.replicate n (.int .u8 0) := by
  unfold strCells zeroS
  rw [mk_data, List.map_replicate]
  rfl

section
variable {P : Program} {ops : Array Oper} {o : Oper} {a : Act} {w : World} {Q : Exit → Act → World → Prop}
theorem wpList_append_row {rest : List Oper} (hgd : o.guard = none) (sl x : Operand) (t u : TypeId) (ho : o.op = .call { callee := .builtin .append, args := #[sl, x], argTypes := #[t, u] })
    (e : TypeId) (i : TypeInfo) (ht : P.underlying t = some (.slice e)) (hu : P.underlying u = some .string) (hi : P.info? e = some i) (hz : i.zero = some (.int .u8 0)) (hsize : i.size = 1) (hby : i.bytes = 1)
    (s p : ByteArray) (A : Option Addr) (c : Nat) (hs : a.eval sl = .slice A s.size c) (hx : a.eval x = .string p) (hR : Row w e s A c) (hmax : s.size + p.size ≤ 1000000000000) (sp : ByteArray) (hsp : s ++ p = sp)
    (h : ∀ A' c' w', Row w' e sp A' c' → w.grownBy w' (Value.slice A s.size c).ownBlock → Fresh w (Value.slice A s.size c).ownBlock (Value.slice A' sp.size c').ownBlock → wpList P ops Q rest (a.put o.dst (.slice A' sp.size c')) w') :
    wpList P ops Q (o :: rest) a w := by
  subst hsp
  refine wpList_plain hgd fun K hK => ?_
  obtain ⟨A', c', w', hr, h2, h3, h4⟩ := run_append_row (P := P) (w := w) t u o.type e i ht hu hi hz hsize hby hR p hmax
  unfold Oper.wp execOp
  simp only [ho, resolve, invoke, builtin, Sem.run_bind, Sem.run_pure, Result.andThen_ok, List.map_toArray, List.map_cons, List.map_nil, hs, hx, hr]
  exact hK _ _ (h A' c' w' h2 h3 h4)

/-- The operation that writes this slot stands next: a guard for an arm of the walk. -/
theorem at_slot (d : Option Nat) {op : Op} {ty : TypeId} {pos : String} {after : Array Edge} {gd : Option (Nat × Bool)} {rest : List Oper} (h : wpList P ops Q (⟨d, op, ty, pos, after, gd⟩ :: rest) a w) :
    wpList P ops Q (⟨d, op, ty, pos, after, gd⟩ :: rest) a w := h

/-- 'make([]byte, n)'. -/
theorem wpList_make_zeros {rest : List Oper} (hgd : o.guard = none) (l c : Operand) (t : TypeId) (hop : o.op = Op.makeSlice t l c) (e : TypeId) (i : TypeInfo) (ht : P.underlying t = some (.slice e)) (hi : P.info? e = some i)
    (hz : i.zero = some (.int .u8 0)) (hsize : i.size = 1) (hby : i.bytes = 1) (L : Int) (n : Nat) (hl : a.eval l = .int .i64 L) (hc : a.eval c = .int .i64 L) (hL : L = (n : Int)) (hn : n ≤ 1000000000000) (s : ByteArray) (hs : zeroS n = s)
    (h : ∀ w', Row w' e s (some ⟨w.heap.size, 0, none⟩) n → Below w.heap.size w w' → wpList P ops Q rest (a.put o.dst (.slice (some ⟨w.heap.size, 0, none⟩) n n)) w') : wpList P ops Q (o :: rest) a w :=
  wpList_make_full w hgd l c t hop 0 e i (.int .u8 0) 1 ht hi hz hsize .i64 .i64 L L n hl hc hL hL (by rw [hby]; omega) (by unfold maxLen; omega) (Nat.zero_le _) fun w' hown hg => by
    have hc0 : (Value.int .u8 0).cells = #[.int .u8 0] := rfl
    rw [hc0, Nat.mul_one, toList_madeCells_one] at hown
    refine h w' ?_ ((Below.refl _ _).grown hg (Nat.le_refl _) (fun k h => by cases h))
    subst hs
    unfold Row
    rw [zeroS_size, zeroS_cells]
    exact hown

/-- A conversion whose run is known. -/
theorem wpList_convert {rest : List Oper} (hgd : o.guard = none) (src dst : TypeId) (x : Operand) (ho : o.op = .convert src dst x) (v u : Value) (w' : World) (hx : a.eval x = v) (hrun : (convert src dst v).run P w = .ok u w')
    (h : wpList P ops Q rest (a.put o.dst u) w') : wpList P ops Q (o :: rest) a w :=
  wpList_run hgd u w' (by unfold execOp; simp only [ho, hx, Sem.run_bind, hrun, Result.andThen_ok, Sem.run_pure]) h
end

end Go.Proofs.YtmgaegaibglnhaaGreat
