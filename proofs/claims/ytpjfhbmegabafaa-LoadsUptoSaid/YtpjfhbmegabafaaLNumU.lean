/- Operations of a drawn region taken by hand. No function of the program is named here.
   Digests that a statement works with: one, or two.
   Hashes: in variables, in lists, as texts, compared; copies of texts into arrays; operations of a drawn region taken by hand.
   Numbers as bytes: package num. -/
import Derived.Test.YtpjfhbmegabafaaLBlock
import Derived.Deep.RegionHeld3
import Derived.Deep.Quiet
import Derived.Deep.RegionWith
import Derived.Test.YtpjfhbmegabafaaLShaFin
import Derived.Test.YtpjfhbmegabafaaLRangeOwn
import Derived.Test.YtpjfhbmegabafaaRows
import Derived.Test.YtpjfhbmegabafaaLBlkBase
import Derived.Stop.BytesEq
namespace Go.Proofs.Ytpjfhbmegabafaa
open Go.RowKit

theorem yieldsIf_move {P : Program} {ops : Array Oper} {S : World → Prop} {o : Oper} {a : Act} {v : Value} (x : Operand) (hg : o.guard = none) (ho : o.op = .move x) (hv : a.eval x = v) : YieldsIf P ops S o v a :=
  .inl ⟨by simp [Region.wanted, hg], fun w _ => by subst hv; simp [execOp, ho]⟩

theorem yieldsIf_assign {P : Program} {ops : Array Oper} {S : World → Prop} {o : Oper} {a : Act} {v : Value} (x : Operand) (hg : o.guard = none) (ho : o.op = .assign x) (hv : a.eval x = v) : YieldsIf P ops S o v a :=
  .inl ⟨by simp [Region.wanted, hg], fun w _ => by subst hv; simp [execOp, ho]⟩

theorem yieldsIf_pick {P : Program} {ops : Array Oper} {S : World → Prop} {o : Oper} {a : Act} {v : Value} {b : Bool} (c x y : Operand) (hg : o.guard = none) (ho : o.op = .pick c x y) (hc : a.eval c = .bool b) (hv : a.eval (if b then x else y) = v) : YieldsIf P ops S o v a :=
  .inl ⟨by simp [Region.wanted, hg], fun w _ => by subst hv; cases b <;> simp [execOp, ho, hc, asBool]⟩

/-- Lists that are written out, at a place. -/
theorem ly : (∀ {α : Type} (l : List α) (i : Nat) (h : i < l.toArray.size), l.toArray[i] = l[i]'h) ∧ (∀ {α : Type} (a : α) (l : List α) (i : Nat) (h : i + 1 < (a :: l).length), (a :: l)[i + 1] = l[i]'(Nat.lt_of_succ_lt_succ h)) ∧
    (∀ {α : Type} (a : α) (l : List α) (h : 0 < (a :: l).length), (a :: l)[0] = a) ∧ (∀ {α : Type} (l : List α) (i : Nat) (a : α), l.toArray.setIfInBounds i a = (l.set i a).toArray) ∧ (∀ {α : Type} (x a : α) (l : List α), (x :: l).set 0 a = a :: l) ∧
    (∀ {α : Type} (x a : α) (l : List α) (n : Nat), (x :: l).set (n + 1) a = x :: l.set n a) := ⟨ly1, ly2, ly3, ly5, ly6, ly7⟩
/-- An operation of a drawn region, taken next. -/
theorem tkn {P : Program} {md : Region.Mode} {ops : Array Oper} {Q : Exit → Act → World → Prop} {S : World → Prop} {oi : Oper} {fuel : Nat} {listed : Array Bool} {a : Act} {w : World} (i : Nat) (v : Value) (hi : ops[i]? = some oi)
    (hs : (Region.noSelect ops && (Region.free md ops listed i && (Region.ready md ops listed).contains i)) = true)
    (hQ : ∀ c a w, Q (.panic c) (a.put oi.dst v) w → Q (.panic c) a w) (hy : YieldsIf P ops S oi v a) (hS : S w)
    (h : wpAnyH P md ops Q S fuel (listed.setIfInBounds i true) (a.put oi.dst v) w) : wpAnyH P md ops Q S (fuel + 1) listed a w := by
  rw [Bool.and_eq_true, Bool.and_eq_true] at hs
  exact wpAnyH_take hi hs.1 hs.2.1 hs.2.2 hQ hy hS h

/-- The same, shorter: what is always told is left out. -/
theorem tkx {P : Program} {md : Region.Mode} {ops : Array Oper} {Q : Exit → Act → World → Prop} {S : World → Prop} {oi : Oper} {fuel : Nat} {listed : Array Bool} {a : Act} {w : World} (i : Nat) (v : Value) (hS : S w)
    (h : wpAnyH P md ops Q S fuel (listed.setIfInBounds i true) (a.put oi.dst v) w) (hi : ops[i]? = some oi := by rfl)
    (hs : (Region.noSelect ops && (Region.free md ops listed i && (Region.ready md ops listed).contains i)) = true := by kernel_rfl)
    (hQ : ∀ c a w, Q (.panic c) (a.put oi.dst v) w → Q (.panic c) a w := by exact fun _ _ _ h => h) (hy : YieldsIf P ops S oi v a := by first | exact yieldsIf_move _ rfl rfl rfl | exact yieldsIf_assign _ rfl rfl rfl | exact yieldsIf_pick _ _ _ rfl rfl rfl rfl | exact .inr ⟨by kernel_rfl, rfl⟩ | exact .inl ⟨by kernel_rfl, fun w _ => by go_simp⟩) : wpAnyH P md ops Q S (fuel + 1) listed a w := tkn i v hi hs hQ hy hS h

end Go.Proofs.Ytpjfhbmegabafaa
namespace Go.Proofs.Ytpjfhbmegabafaa
open Go.RowKit
attribute [local irreducible] Sha.compress Sha.blocks Sha.sha Sha.pad

/-- A digest of the statement's own. -/
structure One (w0 w : World) (a : Nat) (t : List UInt8) : Prop where
  da : Dig w a t
  la : w0.heap.size ≤ a
  bl : Below w0.heap.size w0 w

/-- Two digests of the statement's own. -/
structure Two (w0 w : World) (a b : Nat) (t s : List UInt8) : Prop where
  da : Dig w a t
  db : Dig w b s
  ne : a ≠ b
  la : w0.heap.size ≤ a
  lb : w0.heap.size ≤ b
  bl : Below w0.heap.size w0 w

section
variable {w0 w w' : World} {a b : Nat} {t s : List UInt8}

theorem Dig.drew (h : Dig w a t) : Dig w.drew a t := by
  obtain ⟨x, r, h1, h2, h3⟩ := h
  exact ⟨x, r, h1, h2, h3.drew⟩

theorem One.drew (h : One w0 w a t) : One w0 w.drew a t := ⟨h.da.drew, h.la, h.bl.drew⟩
theorem Two.drew (h : Two w0 w a b t s) : Two w0 w.drew a b t s := ⟨h.da.drew, h.db.drew, h.ne, h.la, h.lb, h.bl.drew⟩
theorem One.up (hb : Below w.heap.size w w') (h : One w0 w a t) : One w0 w' a t := ⟨h.da.below hb h.da.lt, h.la, h.bl.trans (hb.mono h.bl.size)⟩
theorem Two.up (hb : Below w.heap.size w w') (h : Two w0 w a b t s) : Two w0 w' a b t s := ⟨h.da.below hb h.da.lt, h.db.below hb h.db.lt, h.ne, h.la, h.lb, h.bl.trans (hb.mono h.bl.size)⟩
theorem Two.one (h : Two w0 w a b t s) : One w0 w a t := ⟨h.da, h.la, h.bl⟩
theorem Two.other (h : Two w0 w a b t s) : One w0 w b s := ⟨h.db, h.lb, h.bl⟩

theorem One.new (h : Below w0.heap.size w0 w) : Calls Try.prog 82 #[] w fun e w' => ∃ a, e = .returned (.pointer (some ⟨a, 0, none⟩)) ∧ One w0 w' a [] :=
  (new_any w).mono fun _ _ ⟨a, he, hl, hd, hb⟩ => ⟨a, he, hd, Nat.le_trans h.size hl, h.trans (hb.mono h.size)⟩

theorem One.new2 (h : One w0 w a t) : Calls Try.prog 82 #[] w fun e w' => ∃ b, e = .returned (.pointer (some ⟨b, 0, none⟩)) ∧ Two w0 w' a b t [] :=
  (new_any w).mono fun _ _ ⟨_, he, hl, hd, hb⟩ => ⟨_, he, h.da.below hb h.da.lt, hd, Nat.ne_of_lt (Nat.lt_of_lt_of_le h.da.lt hl), h.la, Nat.le_trans h.bl.size hl, h.bl.trans (hb.mono h.bl.size)⟩

theorem One.write (h : One w0 w a t) (x : ByteArray) (hn : t.length + x.size < 4611686018427387904) (T : List UInt8) (hT : t ++ x.data.toList = T) :
    Calls Try.prog 84 #[.pointer (some ⟨a, 0, none⟩), .string x] w fun e w' => e = .returned (.tuple #[]) ∧ One w0 w' a T := by
  subst hT
  refine (write_any a t x w h.da hn).mono fun _ _ ⟨he, hd, hg⟩ => ⟨he, hd, h.la, ?_⟩
  exact h.bl.grown hg h.bl.size (fun k e => by cases e; exact h.la)

theorem Two.write (h : Two w0 w a b t s) (x : ByteArray) (hn : t.length + x.size < 4611686018427387904) (T : List UInt8) (hT : t ++ x.data.toList = T) :
    Calls Try.prog 84 #[.pointer (some ⟨a, 0, none⟩), .string x] w fun e w' => e = .returned (.tuple #[]) ∧ Two w0 w' a b T s := by
  subst hT
  refine (write_any a t x w h.da hn).mono fun _ _ ⟨he, hd, hg⟩ => ⟨he, hd, h.db.grown hg (fun e => h.ne (Option.some.inj e).symm), h.ne, h.la, h.lb, ?_⟩
  exact h.bl.grown hg h.bl.size (fun k e => by cases e; exact h.la)

end

end Go.Proofs.Ytpjfhbmegabafaa
namespace Go.Proofs.Ytpjfhbmegabafaa
open Go.RowKit
open Go.Lib (strCells strCells_length strCells_oneCell)
attribute [local irreducible] Sha.compress Sha.blocks Sha.sha Sha.pad

/-- Results: a cell of several, a slot. -/
theorem results_ct {P : Program} {fn : Func} {p q : Tmp} {ty : TypeId} (h : fn.results = #[.cell p ty, .tmp q]) (tmps : Array Value) (w : World) (g : Nat) (t : TypeId) (cs : Array Value) (fr : Nat × Nat) (d : TypeDesc)
    (hp : tmps.getD p undef = .pointer (some ⟨g, 0, none⟩)) (hg : w.heap[g]? = some (.cells cs t fr)) (v : Value) (hq : tmps.getD q undef = v)
    (hu : P.underlying ty = some d) (hd : (match d with | .struct _ | .array _ _ => true | _ => false) = true) (hi : (P.info? ty).map (·.size) = some cs.size) :
    (results fn tmps).run P w = .ok (.tuple #[.agg cs, v]) w := by
  have hp' : tmps[p]?.getD undef = .pointer (some ⟨g, 0, none⟩) := by simpa using hp
  have hq' : tmps[q]?.getD undef = v := by simpa using hq
  simp [results, h, hp', hq', asAddr, run_loadVar_row w g t ty cs fr d hg hu hd hi]

theorem below_up {a b c : World} (h : Below b.heap.size b c) (k : Below a.heap.size a b) : Below a.heap.size a c := k.trans (h.mono k.size)
/-- A list of texts that was just made. -/
theorem Texts.new (w : World) (xs : List ByteArray) (cs : Array Value) (h : cs.toList = strs xs) (n : Nat) (hn : xs.length = n) (t : TypeId) : Texts (w.alloc (.cells cs t)) (w.alloc (.cells cs t)).heap.size (some ⟨w.heap.size, 0, none⟩) n xs := by
  rw [World.size_alloc]
  subst hn
  have hl : cs.size = xs.length := by rw [← Array.length_toList, h, strs_length]
  refine ⟨by rw [strs_length, Nat.mul_one], .inr ⟨_, rfl, Nat.lt_succ_self _, fun j hj => ?_⟩⟩
  have e0 : (⟨w.heap.size, 0, none⟩ : Addr).add j = ⟨w.heap.size, j, none⟩ := by
    unfold Addr.add
    by_cases h0 : j = 0 <;> simp [h0]
  rw [e0, cell_of_row _ w.heap.size j cs t (0, 0) (heap_alloc_new w _), ← Array.getElem?_toList, h, List.getElem?_eq_getElem hj]

/-- A hash as a value: 32 bytes. -/
def hv (l : List UInt8) : Value := .agg (byteCells l).toArray

theorem h_all {w : World} {g : Nat} {t : TypeId} {cs : List Value} (h : Holds w g t cs) : w.rangeAt g 0 cs := h.range 0 _ (fun j _ => by rw [Nat.zero_add])

/-- Hashes, one behind the other. -/
def hashCells (xs : List (List UInt8)) : List Value := xs.flatMap byteCells

theorem hashCells_length : ∀ (xs : List (List UInt8)), (∀ x ∈ xs, x.length = 32) → (hashCells xs).length = 32 * xs.length
  | [], _ => rfl
  | x :: xs, h => by
    have ih := hashCells_length xs (fun y hy => h y (List.mem_cons_of_mem _ hy))
    have hx := h x (List.mem_cons_self ..)
    have e : hashCells (x :: xs) = byteCells x ++ hashCells xs := rfl
    rw [e, List.length_append, ih, byteCells, List.length_map, hx, List.length_cons]
    omega

theorem hashCells_at : ∀ (xs : List (List UInt8)) (_ : ∀ x ∈ xs, x.length = 32) (k : Nat) (x : List UInt8) (_ : xs[k]? = some x) (j : Nat) (_ : j < 32), (hashCells xs)[32 * k + j]? = (byteCells x)[j]?
  | [], _, k, x, hk, _, _ => by simp at hk
  | y :: xs, h, 0, x, hk, j, hj => by
    have hy := h y (List.mem_cons_self ..)
    have e : hashCells (y :: xs) = byteCells y ++ hashCells xs := rfl
    have ex : y = x := by simpa using hk
    subst ex
    rw [e, Nat.mul_zero, Nat.zero_add, List.getElem?_append_left (by rw [byteCells, List.length_map, hy]; exact hj)]
  | y :: xs, h, k + 1, x, hk, j, hj => by
    have hy := h y (List.mem_cons_self ..)
    have e : hashCells (y :: xs) = byteCells y ++ hashCells xs := rfl
    have ih := hashCells_at xs (fun y hy => h y (List.mem_cons_of_mem _ hy)) k x (by simpa using hk) j hj
    have hl : (byteCells y).length = 32 := by rw [byteCells, List.length_map, hy]
    rw [e, List.getElem?_append_right (by rw [hl]; omega), hl, ← ih]
    congr 1
    omega

/-- A list of hashes in a block. -/
structure Ends (w : World) (g n : Nat) (xs : List (List UInt8)) : Prop where
  len : xs.length = n
  all : ∀ x ∈ xs, x.length = 32
  at_ : Holds w g 33 (hashCells xs)

theorem Ends.range {w : World} {g n : Nat} {xs : List (List UInt8)} (h : Ends w g n xs) {k : Nat} {x : List UInt8} (hx : xs[k]? = some x) : w.rangeAt g (k * 32) (byteCells x) := by
  rw [Nat.mul_comm]
  have hm := List.mem_of_getElem? hx
  refine Holds.range h.at_ _ _ fun j hj => ?_
  rw [byteCells, List.length_map, h.all x hm] at hj
  exact hashCells_at xs h.all k x hx j hj

theorem Ends.below {w w' : World} {B g n : Nat} {xs : List (List UInt8)} (h : Ends w g n xs) (hb : Below B w w') (hg : g < B) : Ends w' g n xs := ⟨h.len, h.all, Holds.below h.at_ hb hg⟩

theorem Try.infoHashD : (Try.prog.info? 33).map (fun i => (i.zero, i.size, i.bytes)) = some (some (.agg z32), 32, 32) := by kernel_rfl

def h0 : List UInt8 := List.replicate 32 0
theorem hashCells_zero (n : Nat) : hashCells (List.replicate n h0) = List.replicate (n * 32) (.int .u8 0) := by
  induction n with
  | zero => rfl
  | succ n ih =>
    have e : hashCells (List.replicate (n + 1) h0) = byteCells h0 ++ hashCells (List.replicate n h0) := rfl
    have e2 : byteCells h0 = List.replicate 32 (.int .u8 0) := by kernel_rfl
    rw [e, ih, e2, List.replicate_append_replicate]
    congr 1
    omega

theorem made_hashes (n : Nat) : madeCells z32 (n * 32) = (hashCells (List.replicate n h0)).toArray := by
  rw [hashCells_zero]
  apply Array.ext
  · simp [madeCells]
  · intro j h1 h2
    have hz : ∀ k, k < 32 → z32[k]! = .int .u8 0 := by
      intro k hk
      have hk' : k < z32.size := by simpa [z32] using hk
      rw [getElem!_pos z32 k hk']
      simp [z32]
    have hs : z32.size = 32 := by decide
    simp [madeCells, hs]
    exact hz _ (Nat.mod_lt _ (by decide))

section
variable {P : Program} {ops : Array Oper} {o : Oper} {a : Act} {w : World} {Q : Exit → Act → World → Prop}
/-- 'make([]api.Hash, n)'. -/
theorem wpList_make_hashes {rest : List Oper} (hgd : o.guard = none) (l c : Operand) (hop : o.op = Op.makeSlice 62 l c) (L : Int) (n : Nat) (hl : a.eval l = .int .i64 L) (hc : a.eval c = .int .i64 L) (hL : L = (n : Int)) (hn : n ≤ 1000000000)
    (h : wpList Try.prog ops Q rest (a.put o.dst (.slice (some ⟨w.heap.size, 0, none⟩) n n)) (w.alloc (.cells (hashCells (List.replicate n h0)).toArray 33))) : wpList Try.prog ops Q (o :: rest) a w := by
  subst hL
  obtain ⟨i, hi, hz, hsize, hby⟩ := info_parts Try.infoHashD
  have hrun := run_make (P := Try.prog) w 62 33 i (.agg z32) Try.underlying62 hi hz .i64 .i64 (n : Int) (n : Int) (by omega) (by omega) (by rw [hby]; omega) (by omega)
  have hzc : (Value.agg z32).cells = z32 := rfl
  rw [hzc, Int.toNat_natCast, hsize, made_hashes] at hrun
  refine wpList_run hgd _ _ ?_ h
  unfold execOp
  simp only [hop, hl, hc, Sem.run_bind, hrun, Result.andThen_ok, Sem.run_pure]
end

theorem sizeU8_run (w : World) : (sizeOf 5).run Try.prog w = .ok 1 w := by kernel_rfl

theorem hv_same (C : List UInt8) (hC : C.length = 32) (w : World) : (binOp .eql 33 (hv C) (hv C)).run Try.prog w = .ok (.bool true) w := by
  have h := run_eql_bytes w 33 5 32 Try.underlying33 Try.underlying5 sizeU8_run C C hC hC
  rw [beq_self_eq_true] at h
  exact h

theorem hv_guard (op : BinOp) (x y : Operand) (C D : List UInt8) (w : World) : (eqGuard op 33 x y (hv C) (hv D)).run Try.prog w = .ok () w :=
  run_eqGuard_agg w op 33 x y _ _ (by kernel_rfl)

/-- A hash's cells, whatever they are: what a walk wants of them. -/
structure HashCells (cs : List Value) : Prop where
  len : cs.length = 32
  one : cs.toArray.all (·.oneCell') = true
  eql : ∀ W, (binOp .eql 33 (.agg cs.toArray) (.agg cs.toArray)).run Try.prog W = .ok (.bool true) W
  guard : ∀ op x y W, (eqGuard op 33 x y (.agg cs.toArray) (.agg cs.toArray)).run Try.prog W = .ok () W

theorem hash_cells (C : List UInt8) (hC : C.length = 32) : HashCells (byteCells C) :=
  ⟨by rw [byteCells, List.length_map, hC], all_oneCell_toArray (byteCells_one C), hv_same C hC, fun op x y W => hv_guard op x y C C W⟩

theorem HashCells.there {cs : List Value} (h : HashCells cs) (w : World) : (w.alloc (.cells z32 33)).there w.heap.size 0 cs.toArray.size :=
  (Holds.new w 33 z32).there 0 _ (by rw [List.size_toArray, h.len]; decide)

theorem HashCells.size {cs : List Value} (h : HashCells cs) : (Try.prog.info? 33).map (·.size) = some cs.toArray.size := by
  rw [Try.infoHash, List.size_toArray, h.len]

theorem HashCells.size' {cs : List Value} (h : HashCells cs) : (Try.prog.info? 33).map (·.size) = some cs.length := by
  rw [Try.infoHash, h.len]

theorem HashCells.new {cs : List Value} (hc : HashCells cs) {w W : World} (h : (w.alloc (.cells z32 33)).setCells w.heap.size 0 cs = W) : Holds W w.heap.size 33 cs ∧ Below w.heap.size w W := by
  subst h
  have h1 := (Holds.new w 33 z32).put 0 cs (by rw [hc.len]; decide)
  rw [put_all _ _ (by rw [hc.len]; decide)] at h1
  exact ⟨h1, below_setCells ((Below.refl _ _).alloc (Nat.le_refl _) _) _ _ _ (Nat.le_refl _)⟩

end Go.Proofs.Ytpjfhbmegabafaa
namespace Go.Proofs.Ytpjfhbmegabafaa
open Go.RowKit
open Go.Lib (strCells strCells_length strCells_oneCell)

/-- A slice of bytes as a text. -/
theorem row_text (w : World) (g n : Nat) (s : ByteArray) (hn : n = s.size) (t : TypeId) (h : Holds w g t (strCells s)) : (convert 51 9 (.slice (some ⟨g, 0, none⟩) n n)).run Try.prog w = .ok (.string s) w :=
  run_convert_block (P := Try.prog) (w := w) (e := 5) (n := n) (c := n) 51 9 Try.underlying51 Try.underlying5 Try.underlying9 hn h rfl

theorem be_byte (n k : Nat) : ((UInt8.ofNat (n / 256 ^ k)).toNat : Int) = (n : Int) / 256 ^ k % 256 := by
  rw [UInt8.toNat_ofNat', Int.natCast_emod, Int.natCast_ediv, Int.natCast_pow]
  rfl

theorem be_byte0 (n : Nat) : ((UInt8.ofNat (n / 256 ^ 0)).toNat : Int) = (n : Int) % 256 := by
  have e := be_byte n 0
  have q0 : (n : Int) / 256 ^ 0 = n := by simp
  rw [q0] at e
  exact e

theorem U8_any (n : Nat) (w : World) : Calls Try.prog 68 #[.int .i64 (n : Int)] w fun e w' => e = .returned (.string (be 1 n)) ∧ Below w.heap.size w w' := by
  have hcv := row_text (w.alloc (.cells #[.int .u8 ((n : Int) % 256)] 5)) w.heap.size 1 (be 1 n) rfl 5 (by
    have h := Holds.new w 5 #[.int .u8 ((n : Int) % 256)]
    have e : strCells (be 1 n) = [.int .u8 ((n : Int) % 256)] := by
      rw [← be_byte0]
      rfl
    rw [e]
    exact h)
  go_enter Try.func68, Try.ntmps68
  go_wp2
  go_ret
  exact ⟨rfl, (Below.refl _ _).alloc (Nat.le_refl _) _⟩


theorem U32_any (n : Nat) (w : World) : Calls Try.prog 96 #[.int .i64 (n : Int)] w fun e w' => e = .returned (.string (be 4 n)) ∧ Below w.heap.size w w' := by
  have hcv := row_text (w.alloc (.cells #[.int .u8 ((n : Int) / 16777216 % 256), .int .u8 ((n : Int) / 65536 % 256), .int .u8 ((n : Int) / 256 % 256), .int .u8 ((n : Int) % 256)] 5)) w.heap.size 4 (be 4 n) rfl 5 (by
    have h := Holds.new w 5 #[.int .u8 ((n : Int) / 16777216 % 256), .int .u8 ((n : Int) / 65536 % 256), .int .u8 ((n : Int) / 256 % 256), .int .u8 ((n : Int) % 256)]
    have e : strCells (be 4 n) = [.int .u8 ((n : Int) / 16777216 % 256), .int .u8 ((n : Int) / 65536 % 256), .int .u8 ((n : Int) / 256 % 256), .int .u8 ((n : Int) % 256)] := by
      have f3 : (n : Int) / 16777216 % 256 = _ := (be_byte n 3).symm
      have f2 : (n : Int) / 65536 % 256 = _ := (be_byte n 2).symm
      have f1 : (n : Int) / 256 % 256 = _ := (be_byte n 1).symm
      rw [f3, f2, f1, ← be_byte0]
      rfl
    rw [e]
    exact h)
  go_enter Try.func96, Try.ntmps96
  go_wp2
  go_ret
  exact ⟨rfl, (Below.refl _ _).alloc (Nat.le_refl _) _⟩

end Go.Proofs.Ytpjfhbmegabafaa
