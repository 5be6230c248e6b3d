/- Hashes: in variables, in lists, as texts, compared; copies of texts into arrays; operations of a drawn region taken by hand. -/
import Derived.Test.YtmgaegaibglnhaaGreatTagP
import Derived.Test.YtmgaegaibglnhaaGreatYields
import Derived.Test.YtmgaegaibglnhaaGreatRows
import Derived.Test.YtmgaegaibglnhaaGreatWords
import Derived.Test.YtmgaegaibglnhaaGreatTools
import Derived.Test.YtmgaegaibglnhaaGreatTwo
import Derived.Test.YtmgaegaibglnhaaGreatRefBe
import Derived.Deep.RegionHeld3
import Derived.Deep.Quiet
import Derived.Deep.RegionWith
import Derived.Stop.BytesEq
namespace Go.Proofs.YtmgaegaibglnhaaGreat
open Go.RowKit
open Go.Lib (strCells strCells_length strCells_oneCell)
attribute [local irreducible] Sha.compress Sha.blocks Sha.sha Sha.pad

/-- Results: a cell of several, a slot. -/
theorem results_ct {P : Program} {fn : Func} {p q : Tmp} {ty : TypeId} (h : fn.results = #[.cell p ty, .tmp q]) (tmps : Array Value) (w : World) (g : Nat) (t : TypeId) (cs : Array Value) (fr : Nat × Nat) (d : TypeDesc)
    (hp : tmps.getD p undef = .pointer (some ⟨g, 0, none⟩)) (hg : w.heap[g]? = some (.cells cs t fr)) (v : Value) (hq : tmps.getD q undef = v)
    (hu : P.underlying ty = some d) (hd : (match d with | .struct _ | .array _ _ => true | _ => false) = true) (hi : (P.info? ty).map (·.size) = some cs.size) :
    (results fn tmps).run P w = .ok (.tuple #[.agg cs, v]) w := by
  have hp' : tmps[p]?.getD undef = .pointer (some ⟨g, 0, none⟩) := by simpa using hp
  have hq' : tmps[q]?.getD undef = v := by simpa using hq
  simp [results, h, hp', hq', asAddr, run_loadVar_row w g t ty cs fr d hg hu hd hi]

theorem below_up {a b c : World} (h : Below b.heap.size b c) (k : Below a.heap.size a b) : Below a.heap.size a c := k.trans (h.mono k.size)
/-- What is hidden, behind a step. -/
theorem zup {a b c : World} (h : Below b.heap.size b c) (k : Hid (Below a.heap.size a b)) : Hid (Below a.heap.size a c) := hid (below_up h k.out)
theorem zon {w w' : World} {g : Nat} {t : TypeId} {cs : List Value} (h : Below w.heap.size w w') (k : Hid (Holds w g t cs)) : Hid (Holds w' g t cs) := hid (k.out.below h k.out.lt)

/-- The byte of a text. -/
theorem str_byte (s : ByteArray) (k : Nat) (hk : k < s.size) (j : Int) (hj : j = k) (w : World) :
    (Instr.index 9 (.string s) (.int .i64 j)).run Tryz.prog w = .ok (.int .u8 ((s.data.toList.getD k 0).toNat : Int)) w := by
  subst hj
  rw [run_index_string w 9 s .i64 k Tryz.underlying9, dif_pos ⟨by omega, by omega⟩]
  have h1 : k < s.data.size := hk
  have e : s[((k : Int)).toNat]'(by omega) = s.data.toList.getD k 0 := by
    simp only [ByteArray.getElem_eq_getElem_data, List.getD, Int.toNat_natCast]
    rw [Array.getElem?_toList, Array.getElem?_eq_getElem h1]
    rfl
  rw [e]

/-- Texts, joined. -/
def joinS (xs : List ByteArray) : List UInt8 := xs.flatMap fun x => x.data.toList

theorem joinS_next {xs : List ByteArray} {k : Nat} {x : ByteArray} (h : xs[k]? = some x) : joinS (xs.take (k + 1)) = joinS (xs.take k) ++ x.data.toList := by
  unfold joinS
  rw [take_next h, List.flatMap_append]
  simp

theorem joinS_length (xs : List ByteArray) : (joinS xs).length = totS xs := by
  induction xs with
  | nil => rfl
  | cons x xs ih =>
    have h := data_length x
    have e : joinS (x :: xs) = x.data.toList ++ joinS xs := rfl
    rw [e, List.length_append, ih, h]
    rfl

/-- A list of texts that was just made. -/
theorem Texts.new (w : World) (xs : List ByteArray) (cs : Array Value) (h : cs.toList = strs xs) (n : Nat) (hn : xs.length = n) (t : TypeId) : Texts (w.alloc (.cells cs t)) (w.alloc (.cells cs t)).heap.size (some ⟨w.heap.size, 0, none⟩) n xs := by
  rw [World.size_alloc]
  subst hn
  have hl : cs.size = xs.length := by rw [← Array.length_toList, h, strs_length]
  refine ⟨by rw [strs_length, Nat.mul_one], .inr ⟨_, rfl, Nat.lt_succ_self _, fun j hj => ?_⟩⟩
  have e0 : (⟨w.heap.size, 0, none⟩ : Addr).add j = ⟨w.heap.size, j, none⟩ := by
    unfold Addr.add
    by_cases h0 : j = 0 <;> simp [h0]
  rw [e0, cell_of_row _ w.heap.size j cs t (0, 0) (heap_alloc_new w _), ← Array.getElem?_toList, h, List.getElem?_eq_getElem hj]

/-- A hash in the cell of a result. -/
theorem hash_ret {w : World} {g : Nat} (t : List UInt8) (h : Holds w g 55 z32.toList) :
    w.there g 0 (byteCells (Sha.sha t)).toArray.size ∧ Holds (w.setCells g 0 (byteCells (Sha.sha t))) g 55 (byteCells (Sha.sha t)) := by
  have hcl : (byteCells (Sha.sha t)).length = 32 := by
    have := sha_size t
    rw [List.size_toArray] at this
    exact this
  refine ⟨h.there 0 _ (by rw [List.size_toArray, hcl]; decide), ?_⟩
  have hrs := h.put 0 (byteCells (Sha.sha t)) (by rw [hcl]; decide)
  rw [put_all _ _ (by rw [hcl]; decide)] at hrs
  exact hrs

theorem hash_size (t : List UInt8) : (Tryz.prog.info? 55).map (·.size) = some (byteCells (Sha.sha t)).toArray.size := by
  rw [Tryz.infoHash, sha_size]

theorem sha_len32 (t : List UInt8) : (Sha.sha t).length = 32 := by
  have h := sha_size t
  rw [List.size_toArray, byteCells, List.length_map] at h
  exact h

/-- A hash as a value: 32 bytes. -/
def hv (l : List UInt8) : Value := .agg (byteCells l).toArray

/-- A hash, stored whole in a cell of 32. -/
theorem hv_put {w : World} {g : Nat} (t : List UInt8) {l : List Value} (hl : l.length = 32) (h : Holds w g 55 l) (ht : t.length = 32) :
    w.there g 0 (byteCells t).toArray.size ∧ Holds (w.setCells g 0 (byteCells t)) g 55 (byteCells t) := by
  have hcl : (byteCells t).length = 32 := by rw [byteCells, List.length_map, ht]
  refine ⟨h.there 0 _ (by rw [List.size_toArray, hcl, hl]; decide), ?_⟩
  have hrs := h.put 0 (byteCells t) (by rw [hcl, hl]; decide)
  rw [put_all _ _ (by rw [hcl, hl])] at hrs
  exact hrs

theorem hv_size (t : List UInt8) (ht : t.length = 32) : (Tryz.prog.info? 55).map (·.size) = some (byteCells t).toArray.size := by
  rw [Tryz.infoHash, List.size_toArray, byteCells, List.length_map, ht]

/-- A list of bytes as a text. -/
def txt (l : List UInt8) : ByteArray := ⟨l.toArray⟩
theorem txt_list (l : List UInt8) : (txt l).data.toList = l := rfl
theorem txt_size (l : List UInt8) : (txt l).size = l.length := by rw [← data_length, txt_list]
theorem txt_cells (l : List UInt8) : strCells (txt l) = byteCells l := rfl

theorem hrow_text (w : World) (g n : Nat) (s : ByteArray) (hn : n = s.size) (t : TypeId) (h : Holds w g t (strCells s)) : (convert 82 9 (.slice (some ⟨g, 0, none⟩) n n)).run Tryz.prog w = .ok (.string s) w :=
  run_convert_block (P := Tryz.prog) (w := w) (e := 5) (n := n) (c := n) 82 9 Tryz.underlying82 Tryz.underlying5 Tryz.underlying9 hn h rfl

/-- A hash in a cell, sliced and turned into a text. -/
theorem hv_text (l : List UInt8) (hl : l.length = 32) (w : World) (g : Nat) (h : Holds w g 55 (byteCells l)) :
    (convert 82 9 (.slice (some ⟨g, 0, none⟩) 32 32)).run Tryz.prog w = .ok (.string (txt l)) w :=
  hrow_text w g 32 (txt l) (by rw [txt_size, hl]) _ h

theorem h_all {w : World} {g : Nat} {t : TypeId} {cs : List Value} (h : Holds w g t cs) : w.rangeAt g 0 cs := h.range 0 _ (fun j _ => by rw [Nat.zero_add])

/-- Hashes, one behind the other. -/
def hashCells (xs : List (List UInt8)) : List Value := xs.flatMap byteCells

theorem hashCells_length : ∀ (xs : List (List UInt8)), (∀ x ∈ xs, x.length = 32) → (hashCells xs).length = 32 * xs.length
  | [], _ => rfl
  | x :: xs, h => by
    have ih := hashCells_length xs (fun y hy => h y (List.mem_cons_of_mem _ hy))
    have hx := h x (List.mem_cons_self ..)
    have e : hashCells (x :: xs) = byteCells x ++ hashCells xs := rfl
    rw [e, List.length_append, ih, byteCells, List.length_map, hx, List.length_cons]
    omega

theorem hashCells_at : ∀ (xs : List (List UInt8)) (_ : ∀ x ∈ xs, x.length = 32) (k : Nat) (x : List UInt8) (_ : xs[k]? = some x) (j : Nat) (_ : j < 32), (hashCells xs)[32 * k + j]? = (byteCells x)[j]?
  | [], _, k, x, hk, _, _ => by simp at hk
  | y :: xs, h, 0, x, hk, j, hj => by
    have hy := h y (List.mem_cons_self ..)
    have e : hashCells (y :: xs) = byteCells y ++ hashCells xs := rfl
    have ex : y = x := by simpa using hk
    subst ex
    rw [e, Nat.mul_zero, Nat.zero_add, List.getElem?_append_left (by rw [byteCells, List.length_map, hy]; exact hj)]
  | y :: xs, h, k + 1, x, hk, j, hj => by
    have hy := h y (List.mem_cons_self ..)
    have e : hashCells (y :: xs) = byteCells y ++ hashCells xs := rfl
    have ih := hashCells_at xs (fun y hy => h y (List.mem_cons_of_mem _ hy)) k x (by simpa using hk) j hj
    have hl : (byteCells y).length = 32 := by rw [byteCells, List.length_map, hy]
    rw [e, List.getElem?_append_right (by rw [hl]; omega), hl, ← ih]
    congr 1
    omega

/-- A list of hashes in a block. -/
structure Ends (w : World) (g n : Nat) (xs : List (List UInt8)) : Prop where
  len : xs.length = n
  all : ∀ x ∈ xs, x.length = 32
  at_ : Holds w g 55 (hashCells xs)

theorem Ends.range {w : World} {g n : Nat} {xs : List (List UInt8)} (h : Ends w g n xs) {k : Nat} {x : List UInt8} (hx : xs[k]? = some x) : w.rangeAt g (k * 32) (byteCells x) := by
  rw [Nat.mul_comm]
  have hm := List.mem_of_getElem? hx
  refine Holds.range h.at_ _ _ fun j hj => ?_
  rw [byteCells, List.length_map, h.all x hm] at hj
  exact hashCells_at xs h.all k x hx j hj

theorem Ends.below {w w' : World} {B g n : Nat} {xs : List (List UInt8)} (h : Ends w g n xs) (hb : Below B w w') (hg : g < B) : Ends w' g n xs := ⟨h.len, h.all, Holds.below h.at_ hb hg⟩

/-- A hash in a variable of its own. -/
theorem hv_new {W W7 : World} (x : List UInt8) (hx : x.length = 32) (h : (W.alloc (.cells z32 55)).setCells W.heap.size 0 (byteCells x) = W7) : Holds W7 W.heap.size 55 (byteCells x) ∧ Below W.heap.size W W7 := by
  have hH := Holds.new W 55 z32
  have hp := (hv_put x rfl hH hx).2
  have hb : Below W.heap.size W (W.alloc (.cells z32 55)) := (Below.refl _ _).alloc (Nat.le_refl _) _
  rw [h] at hp
  refine ⟨hp, ?_⟩
  rw [← h]
  exact below_setCells hb _ _ _ (Nat.le_refl _)

theorem hv_there (W : World) (x : List UInt8) (hx : x.length = 32) : (W.alloc (.cells z32 55)).there W.heap.size 0 (byteCells x).toArray.size := (hv_put x rfl (Holds.new W 55 z32) hx).1

theorem zero_again {w : World} {g : Nat} (h : Holds w g 55 z32.toList) : Holds (w.setCells g 0 z32.toList) g 55 z32.toList := by
  have hp := h.put 0 z32.toList (by decide)
  rw [put_all _ _ (by decide)] at hp
  exact hp

theorem Tryz.infoHashD : (Tryz.prog.info? 55).map (fun i => (i.zero, i.size, i.bytes)) = some (some (.agg z32), 32, 32) := by kernel_rfl

def h0 : List UInt8 := List.replicate 32 0
theorem h0_length : h0.length = 32 := List.length_replicate ..

theorem hashCells_zero (n : Nat) : hashCells (List.replicate n h0) = List.replicate (n * 32) (.int .u8 0) := by
  induction n with
  | zero => rfl
  | succ n ih =>
    have e : hashCells (List.replicate (n + 1) h0) = byteCells h0 ++ hashCells (List.replicate n h0) := rfl
    have e2 : byteCells h0 = List.replicate 32 (.int .u8 0) := by kernel_rfl
    rw [e, ih, e2, List.replicate_append_replicate]
    congr 1
    omega

theorem made_hashes (n : Nat) : madeCells z32 (n * 32) = (hashCells (List.replicate n h0)).toArray := by
  rw [hashCells_zero]
  apply Array.ext
  · simp [madeCells]
  · intro j h1 h2
    have hz : ∀ k, k < 32 → z32[k]! = .int .u8 0 := by
      intro k hk
      have hk' : k < z32.size := by simpa [z32] using hk
      rw [getElem!_pos z32 k hk']
      simp [z32]
    have hs : z32.size = 32 := by decide
    simp [madeCells, hs]
    exact hz _ (Nat.mod_lt _ (by decide))

section
variable {P : Program} {ops : Array Oper} {o : Oper} {a : Act} {w : World} {Q : Exit → Act → World → Prop}
/-- 'make([]api.Hash, n)'. -/
theorem wpList_make_hashes {rest : List Oper} (hgd : o.guard = none) (l c : Operand) (hop : o.op = Op.makeSlice 56 l c) (L : Int) (n : Nat) (hl : a.eval l = .int .i64 L) (hc : a.eval c = .int .i64 L) (hL : L = (n : Int)) (hn : n ≤ 1000000000)
    (h : wpList Tryz.prog ops Q rest (a.put o.dst (.slice (some ⟨w.heap.size, 0, none⟩) n n)) (w.alloc (.cells (hashCells (List.replicate n h0)).toArray 55))) : wpList Tryz.prog ops Q (o :: rest) a w := by
  subst hL
  obtain ⟨i, hi, hz, hsize, hby⟩ := info_parts Tryz.infoHashD
  have hrun := run_make (P := Tryz.prog) w 56 55 i (.agg z32) Tryz.underlying56 hi hz .i64 .i64 (n : Int) (n : Int) (by omega) (by omega) (by rw [hby]; omega) (by omega)
  have hzc : (Value.agg z32).cells = z32 := rfl
  rw [hzc, Int.toNat_natCast, hsize, made_hashes] at hrun
  refine wpList_run hgd _ _ ?_ h
  unfold execOp
  simp only [hop, hl, hc, Sem.run_bind, hrun, Result.andThen_ok, Sem.run_pure]
end

theorem hashCells_set : ∀ (xs : List (List UInt8)) (_ : ∀ x ∈ xs, x.length = 32) (k : Nat) (x : List UInt8) (_ : x.length = 32) (_ : k < xs.length), hashCells (xs.set k x) = put (hashCells xs) (k * 32) (byteCells x)
  | [], _, k, x, _, hk => by simp at hk
  | y :: xs, h, 0, x, hx, _ => by
    have hy : (byteCells y).length = 32 := by rw [byteCells, List.length_map, h y (List.mem_cons_self ..)]
    have hx' : (byteCells x).length = 32 := by rw [byteCells, List.length_map, hx]
    have e : hashCells (y :: xs) = byteCells y ++ hashCells xs := rfl
    have e2 : hashCells ((y :: xs).set 0 x) = byteCells x ++ hashCells xs := rfl
    unfold put
    rw [e2, e, Nat.zero_mul, List.take_zero, List.nil_append, Nat.zero_add, hx', List.drop_append_of_le_length (by rw [hy]; exact Nat.le_refl _), List.drop_of_length_le (by rw [hy]; exact Nat.le_refl _), List.nil_append]
  | y :: xs, h, k + 1, x, hx, hk => by
    have hy : (byteCells y).length = 32 := by rw [byteCells, List.length_map, h y (List.mem_cons_self ..)]
    have hx' : (byteCells x).length = 32 := by rw [byteCells, List.length_map, hx]
    have ih := hashCells_set xs (fun z hz => h z (List.mem_cons_of_mem _ hz)) k x hx (by simpa using hk)
    have e : hashCells (y :: xs) = byteCells y ++ hashCells xs := rfl
    have e2 : hashCells ((y :: xs).set (k + 1) x) = byteCells y ++ hashCells (xs.set k x) := rfl
    unfold put at ih ⊢
    have e3 : (k + 1) * 32 = (byteCells y).length + k * 32 := by rw [hy]; omega
    rw [e2, e, ih, e3, Nat.add_assoc, List.take_length_add_append, List.drop_length_add_append]
    simp only [List.append_assoc]

/-- Results: three slots. -/
theorem results_ttt {P : Program} {fn : Func} {p q r : Tmp} (h : fn.results = #[.tmp p, .tmp q, .tmp r]) (tmps : Array Value) (w : World) (x y z : Value)
    (hp : tmps.getD p undef = x) (hq : tmps.getD q undef = y) (hr : tmps.getD r undef = z) : (results fn tmps).run P w = .ok (.tuple #[x, y, z]) w := by
  have hp' : tmps[p]?.getD undef = x := by simpa using hp
  have hq' : tmps[q]?.getD undef = y := by simpa using hq
  have hr' : tmps[r]?.getD undef = z := by simpa using hr
  simp [results, h, hp', hq', hr']

set_option maxRecDepth 100000 in
theorem tT_any (l : List UInt8) (hl : l.length = 32) (w : World) : Calls Tryz.prog 62 #[hv l] w fun e w' => e = .returned (.string (txt l)) ∧ Below w.heap.size w w' := by
  have hc := hv_text l hl (w.alloc (.cells (byteCells l).toArray 55)) w.heap.size (Holds.new w _ _)
  unfold hv
  generalize byteCells l = cs at *
  go_enter Tryz.func62, Tryz.ntmps62
  go_wp2
  go_ret
  exact ⟨rfl, (Below.refl _ _).alloc (Nat.le_refl _) _⟩

/-- 'copy(dst, s)', s a string, at the operation. -/
theorem wp_copy_min {P : Program} {o : Oper} {a : Act} {w : World} {K : Act → World → Prop} {Q : Exit → Act → World → Prop} (d s : Operand) (dT sT elem : TypeId) (ho : o.op = .call { callee := .builtin .copy, args := #[d, s], argTypes := #[dT, sT] })
    (hu : P.underlying dT = some (.slice elem)) (hz : ∀ w, (Go.sizeOf elem).run P w = .ok 1 w) (b f dLen dCap : Nat) (t : ByteArray) (hd : a.eval d = .slice (some ⟨b, f, none⟩) dLen dCap) (hs : a.eval s = .string t) (hc : w.there b f dLen)
    (h : K (a.put o.dst (goInt ((min t.size dLen : Nat) : Int))) (w.setCells b f (byteCells (t.data.toList.take dLen)))) : o.wp P a w K Q := by
  have hr := run_copy_min (P := P) w dT sT o.type elem b f dLen dCap t hu hz hc
  unfold Oper.wp execOp
  simp only [ho, resolve, invoke, builtin, Sem.run_bind, Sem.run_pure, Result.andThen_ok, List.map_toArray, List.map_cons, List.map_nil, hd, hs, hr]
  exact h

theorem sizeU8_run (w : World) : (sizeOf 5).run Tryz.prog w = .ok 1 w := by kernel_rfl

theorem hv_same (C : List UInt8) (hC : C.length = 32) (w : World) : (binOp .eql 55 (hv C) (hv C)).run Tryz.prog w = .ok (.bool true) w := by
  have h := run_eql_bytes w 55 5 32 Tryz.underlying55 Tryz.underlying5 sizeU8_run C C hC hC
  rw [beq_self_eq_true] at h
  exact h

theorem hv_guard (op : BinOp) (x y : Operand) (C D : List UInt8) (w : World) : (eqGuard op 55 x y (hv C) (hv D)).run Tryz.prog w = .ok () w :=
  run_eqGuard_agg w op 55 x y _ _ (by kernel_rfl)

/-- A hash's cells, whatever they are: what a walk wants of them. -/
structure HashCells (cs : List Value) : Prop where
  len : cs.length = 32
  one : cs.toArray.all (·.oneCell') = true
  eql : ∀ W, (binOp .eql 55 (.agg cs.toArray) (.agg cs.toArray)).run Tryz.prog W = .ok (.bool true) W
  guard : ∀ op x y W, (eqGuard op 55 x y (.agg cs.toArray) (.agg cs.toArray)).run Tryz.prog W = .ok () W

theorem hash_cells (C : List UInt8) (hC : C.length = 32) : HashCells (byteCells C) :=
  ⟨by rw [byteCells, List.length_map, hC], all_oneCell_toArray (byteCells_one C), hv_same C hC, fun op x y W => hv_guard op x y C C W⟩

theorem HashCells.there {cs : List Value} (h : HashCells cs) (w : World) : (w.alloc (.cells z32 55)).there w.heap.size 0 cs.toArray.size :=
  (Holds.new w 55 z32).there 0 _ (by rw [List.size_toArray, h.len]; decide)

theorem HashCells.size {cs : List Value} (h : HashCells cs) : (Tryz.prog.info? 55).map (·.size) = some cs.toArray.size := by
  rw [Tryz.infoHash, List.size_toArray, h.len]

theorem HashCells.size' {cs : List Value} (h : HashCells cs) : (Tryz.prog.info? 55).map (·.size) = some cs.length := by
  rw [Tryz.infoHash, h.len]

theorem HashCells.new {cs : List Value} (hc : HashCells cs) {w W : World} (h : (w.alloc (.cells z32 55)).setCells w.heap.size 0 cs = W) : Holds W w.heap.size 55 cs ∧ Below w.heap.size w W := by
  subst h
  have h1 := (Holds.new w 55 z32).put 0 cs (by rw [hc.len]; decide)
  rw [put_all _ _ (by rw [hc.len]; decide)] at h1
  exact ⟨h1, below_setCells ((Below.refl _ _).alloc (Nat.le_refl _) _) _ _ _ (Nat.le_refl _)⟩

theorem zero_cells : HashCells z32.toList := by
  have h := hash_cells (List.replicate 32 0) (List.length_replicate ..)
  have e : byteCells (List.replicate 32 0) = z32.toList := by kernel_rfl
  rw [e] at h
  exact h

/-- A load of a row, its operation guarded and wanted. -/
theorem wpList_load_on {P : Program} {ops : Array Oper} {rest : List Oper} {op : Oper} {a : Act} {w : World} {Q : Exit → Act → World → Prop} (hw : Region.wanted op (yielded ops a.tmps) = true) (ty : TypeId) (x : Operand) (ho : op.op = .load ty x)
    (b o : Nat) (hx : a.eval x = .pointer (some ⟨b, o, none⟩)) (cs : List Value) (d : TypeDesc) (hc : w.rangeAt b o cs)
    (hu : P.underlying ty = some d) (hd : d.isRow = true) (hi : (P.info? ty).map (·.size) = some cs.length)
    (h : wpList P ops Q rest (a.put op.dst (.agg cs.toArray)) w) : wpList P ops Q (op :: rest) a w :=
  wpList_step fun _ hK => by
    rw [if_pos hw]
    exact wp_load_mid ty x ho b o hx cs d hc hu hd hi (hK _ _ h)

end Go.Proofs.YtmgaegaibglnhaaGreat
