/- Merkle trees as plain functions on lists: whole trees of a log, the root over them. No function of the program is named here.
   Layer 9: what the roots are, in hashes; parts of lists of texts; rows of hashes. No function of the program is named here.
   A hash that is handed in.
   Lists of hashes that are handed in.
   Loads of whole arrays and structs, wherever their cells begin. No function of the program is named here.
   Lists of hashes compared (folder almonrylaw0). -/
import Derived.Test.YtpjfhbmegabafaaLShaText
import Derived.Test.YtpjfhbmegabafaaLApFr
import Derived.Test.YtpjfhbmegabafaaLNumU
import Derived.ChangeArms
import Derived.OpenShut
import Derived.DataReads
import Derived.ProofKit
import Derived.ChangeOld
import Derived.Test.YtpjfhbmegabafaaLLendT
import Derived.Deep.Slices
import Derived.Deep.MidRow
import Derived.Deep.RegionHeld3
namespace Go.Proofs.Ytpjfhbmegabafaa.Mth

/-- The greatest power of two below n (n above 1): by doubling from k on. -/
def cutFrom : Nat → Nat → Nat → Nat
  | 0, k, _ => k
  | f + 1, k, n => if 2 * k < n then cutFrom f (2 * k) n else k
def cut (n : Nat) : Nat := cutFrom n 1 n

variable {α : Type} (j : α → α → α)

/-- Two by two. -/
def pairs : List α → List α
  | a :: b :: l => j a b :: pairs l
  | _ => []

/-- The roots of whole trees that hold a log, the greatest first: one for each bit 1 of its size. -/
def whole : Nat → List α → List α
  | 0, _ => []
  | f + 1, l => if l.length = 0 then [] else if l.length % 2 = 0 then whole f (pairs j l) else whole f (pairs j l) ++ (l.getLast?).toList

/-- The root of a log of at least one leaf. -/
def mth : Nat → List α → Option α
  | 0, l => l.head?
  | f + 1, l => if l.length ≤ 1 then l.head? else match mth f (l.take (cut l.length)), mth f (l.drop (cut l.length)) with
      | some a, some b => some (j a b)
      | _, _ => none

def root (l : List α) : Option α := mth j l.length l

/-- The root over whole trees, the last one first. -/
def over : List α → Option α
  | [] => none
  | [x] => some x
  | a :: l => (over l).map (j a)

end Go.Proofs.Ytpjfhbmegabafaa.Mth
namespace Go.Proofs.Ytpjfhbmegabafaa
open Go.RowKit
open Go.Lib (strCells strCells_length strCells_oneCell)
attribute [local irreducible] Sha.compress Sha.blocks Sha.sha Sha.pad

/-! Parts of a list of texts. -/

theorem strs_take (xs : List ByteArray) (k : Nat) : strs (xs.take k) = (strs xs).take k := by simp [strs, List.map_take]
theorem strs_drop (xs : List ByteArray) (k : Nat) : strs (xs.drop k) = (strs xs).drop k := by simp [strs, List.map_drop]

theorem Texts.take {w : World} {B n : Nat} {A : Option Addr} {xs : List ByteArray} (h : Texts w B A n xs) {k : Nat} (hk : k ≤ n) : Texts w B A k (xs.take k) := by
  have hl := h.len
  obtain ⟨h1, h2⟩ := h
  refine ⟨by rw [strs_length, List.length_take]; omega, ?_⟩
  by_cases hk0 : k = 0
  · exact .inl hk0
  · rcases h2 with h2 | ⟨p, hp, hb, hc⟩
    · omega
    · refine .inr ⟨p, hp, hb, fun j hj => ?_⟩
      rw [strs_length, List.length_take] at hj
      rw [hc j (by rw [strs_length]; omega)]
      congr 1
      have e := strs_take xs k
      simp only [e, List.getElem_take]

theorem Texts.drop {w : World} {B n : Nat} {p : Addr} {xs : List ByteArray} (h : Texts w B (some p) n xs) {k : Nat} (hk : k < n) : Texts w B (some (p.add k)) (n - k) (xs.drop k) := by
  have hl := h.len
  obtain ⟨h1, h2⟩ := h
  refine ⟨by rw [strs_length, List.length_drop]; omega, ?_⟩
  rcases h2 with h2 | ⟨q, hp, hb, hc⟩
  · omega
  · cases hp
    refine .inr ⟨_, rfl, by rw [add_block]; exact hb, fun j hj => ?_⟩
    rw [strs_length, List.length_drop] at hj
    rw [add_add, hc (k + j) (by rw [strs_length]; omega)]
    congr 1
    have e := strs_drop xs k
    simp only [e, List.getElem_drop]

/-! Rows of hashes of a call's own. -/

theorem hashCells_append (xs ys : List (List UInt8)) : hashCells (xs ++ ys) = hashCells xs ++ hashCells ys := by unfold hashCells; rw [List.flatMap_append]
theorem hashCells_one (x : List UInt8) : hashCells [x] = byteCells x := by simp [hashCells]

end Go.Proofs.Ytpjfhbmegabafaa
namespace Go.Proofs.Ytpjfhbmegabafaa
open Go.RowKit

section
variable {H : Type} {enc : TypeId × Value → H} {w : World} {base : Nat} {spare : Nat → Bool} {held : Bool}
open Go.ChangeShapes Go.WideShapes Go.Deep

theorem open_hash {fuel : Nat} {cs : List Value} {x : DataW H × List MemPlace} (h : DataW.trod enc Try.prog w base spare held fuel 33 cs = some x) : ∃ s : List UInt8, cs = byteCells s ∧ s.length = 32 := by
  have hH : Try.prog.cellsOf 33 = 32 := by kernel_rfl
  have h1 : Try.prog.cellsOf 5 = 1 := by kernel_rfl
  obtain ⟨xs, m, _, _, hl, hlen, hi⟩ := DataW.trod_array Try.underlying33 h
  rw [hH] at hl
  have hall : ∀ i, i < 32 → ∃ b : UInt8, cs[i]? = some (.int .u8 (b.toNat : Int)) := by
    intro i hin
    have h2 := hi i hin
    rw [h1, Nat.mul_one] at h2
    have hx : xs[i]? = some (xs[i]'(by omega)) := List.getElem?_eq_getElem (by omega)
    obtain ⟨z, hz, _, hw⟩ := DataW.trod_int Try.underlying5 (h2.trans hx)
    have hd : (cs.drop i).take 1 = [cs[i]'(by omega)] := by
      rw [List.drop_eq_getElem_cons (by omega)]
      rfl
    rw [hd] at hz
    injection hz with hz
    have hr : 0 ≤ z ∧ z < 256 := by
      simp [Lit.wf] at hw
      have e0 : IntKind.u8.min = 0 := rfl
      have e1 : IntKind.u8.max = 255 := rfl
      omega
    have hb : ((UInt8.ofNat z.toNat).toNat : Int) = z := by
      have : (UInt8.ofNat z.toNat).toNat = z.toNat := by simp; omega
      omega
    exact ⟨UInt8.ofNat z.toNat, by rw [List.getElem?_eq_getElem (by omega), hz, hb]⟩
  let f : Nat → UInt8 := fun i => match cs[i]? with | some (.int .u8 z) => UInt8.ofNat z.toNat | _ => 0
  refine ⟨(List.range 32).map f, ?_, by simp⟩
  apply List.ext_getElem?
  intro i
  unfold byteCells
  rw [List.map_map, List.getElem?_map]
  by_cases hin : i < 32
  · obtain ⟨b, hb⟩ := hall i hin
    have hfi : f i = b := by
      show (match cs[i]? with | some (.int .u8 z) => UInt8.ofNat z.toNat | _ => 0) = b
      rw [hb]
      show UInt8.ofNat ((b.toNat : Int).toNat) = b
      rw [Int.toNat_natCast]
      simp
    rw [hb, List.getElem?_range hin, Option.map_some]
    show _ = some (Value.int .u8 ((f i).toNat : Int))
    rw [hfi]
  · rw [List.getElem?_eq_none (by omega), List.getElem?_eq_none (by simp; omega)]
    rfl

end

end Go.Proofs.Ytpjfhbmegabafaa
namespace Go.Proofs.Ytpjfhbmegabafaa
open Go.RowKit
open Go.Lib (strCells strCells_length strCells_oneCell)
attribute [local irreducible] Sha.compress Sha.blocks Sha.sha Sha.pad

/-- The slice at A reads as these hashes. -/
def Hashs (w : World) (B : Nat) (A : Option Addr) (n : Nat) (xs : List (List UInt8)) : Prop := At w B 32 A n (hashCells xs) ∧ ∀ x ∈ xs, x.length = 32

section
variable {w w' : World} {B B' n : Nat} {A : Option Addr} {xs ys : List (List UInt8)}
theorem Hashs.len (h : Hashs w B A n xs) : xs.length = n := by
  have h1 := h.1.len
  rw [hashCells_length xs h.2] at h1
  omega
theorem Hashs.below (h : Hashs w B A n xs) (hb : Below B w w') : Hashs w' B A n xs := ⟨At.below h.1 hb, h.2⟩
theorem Hashs.more (h : Hashs w B A n xs) (hB : B ≤ B') : Hashs w B' A n xs := ⟨At.more h.1 hB, h.2⟩
theorem Hashs.drewN (h : Hashs w B A n xs) (k : Nat) : Hashs (w.drewN k) B A n xs := h
theorem Hashs.drew (h : Hashs w B A n xs) : Hashs w.drew B A n xs := h
theorem Hashs.alloc (h : Hashs w B A n xs) (hB : B ≤ w.heap.size) (o : Obj) : Hashs (w.alloc o) B A n xs := ⟨At.alloc h.1 hB o, h.2⟩

/-- A hash's cells, wherever it lies. -/
def CellsAt (w : World) (p : Addr) (cs : List Value) : Prop := ∀ j v, cs[j]? = some v → w.cell? (p.add j) = some v

theorem CellsAt.below {p : Addr} {cs : List Value} (h : CellsAt w p cs) (hb : Below B w w') (hp : p.block < B) : CellsAt w' p cs :=
  fun j v hv => (hb.cell (p := p.add j) (by rw [add_block]; exact hp)).trans (h j v hv)

theorem Hashs.get (h : Hashs w B A n xs) {k : Nat} (hk : k < n) : ∃ p x, A = some p ∧ p.block < B ∧ x ∈ xs ∧ xs[k]? = some x ∧ x.length = 32 ∧ CellsAt w (p.add (k * 32)) (byteCells x) := by
  have hl := h.len
  have hx : xs[k]? = some (xs[k]'(by omega)) := List.getElem?_eq_getElem (by omega)
  rcases h.1.2 with h0 | ⟨p, hA, hB, hc⟩
  · omega
  · refine ⟨p, _, hA, hB, List.getElem_mem .., hx, h.2 _ (List.getElem_mem ..), fun j v hv => ?_⟩
    have hj : j < 32 := by
      have h1 := (List.getElem?_eq_some_iff.1 hv).1
      rw [byteCells, List.length_map, h.2 _ (List.getElem_mem ..)] at h1
      exact h1
    have e := hashCells_at xs h.2 k _ hx j hj
    rw [hv] at e
    have e1 : k * 32 + j = 32 * k + j := by omega
    obtain ⟨hlt, he⟩ := List.getElem?_eq_some_iff.1 e
    have h2 := hc (32 * k + j) hlt
    rw [he] at h2
    rw [add_add, e1]
    exact h2

theorem Hashs.front {m : Nat} (h : Hashs w B A (n + m) (xs ++ ys)) (hl : xs.length = n) : Hashs w B A n xs := by
  have hx : ∀ x ∈ xs, x.length = 32 := fun x hx => h.2 x (List.mem_append_left _ hx)
  have hlen := hashCells_length xs hx
  refine ⟨⟨by omega, ?_⟩, hx⟩
  rcases h.1.2 with h0 | ⟨p, hA, hB, hc⟩
  · exact .inl (by omega)
  · refine .inr ⟨p, hA, hB, fun i hi => ?_⟩
    have h1 : i < (hashCells (xs ++ ys)).length := by rw [hashCells_append, List.length_append]; omega
    have h2 := hc i h1
    simp only [hashCells_append, List.getElem_append_left hi] at h2
    exact h2
end

/-- A part's beginning. -/
theorem Hashs.take {w : World} {B n : Nat} {A : Option Addr} {xs : List (List UInt8)} (h : Hashs w B A n xs) {k : Nat} (hk : k ≤ n) : Hashs w B A k (xs.take k) := by
  have hl := h.len
  have e : xs = xs.take k ++ xs.drop k := (List.take_append_drop k xs).symm
  have e2 : n = k + (n - k) := by omega
  rw [e, e2] at h
  exact h.front (by rw [List.length_take]; omega)

section
variable {H : Type} {enc : TypeId × Value → H} {w : World} {base : Nat} {spare : Nat → Bool} {held : Bool}
open Go.ChangeShapes Go.WideShapes Go.Deep

end

end Go.Proofs.Ytpjfhbmegabafaa
namespace Go.Proofs.Ytpjfhbmegabafaa
open Go.RowKit
section
variable {P : Program} {ops : Array Oper} {o : Oper} {a : Act} {w : World} {Q : Exit → Act → World → Prop}
theorem run_load_far (p : Addr) (ty : TypeId) (cs : List Value) (d : TypeDesc) (hc : CellsAt w p cs) (hu : P.underlying ty = some d) (hd : d.isRow = true) (hi : (P.info? ty).map (·.size) = some cs.length) : (loadVar ty p).run P w = .ok (.agg cs.toArray) w := by
  have hl : (loadCells p cs.length).run P w = .ok cs.toArray w := run_loadCells_list (P := P) w p cs hc
  cases hq : P.info? ty with
  | none => simp [hq] at hi
  | some i =>
    have hs : i.size = cs.length := by simpa [hq] using hi
    have hagg : (isAgg ty).run P w = .ok true w := by
      unfold isAgg
      rw [Sem.run_bind, run_underlying hu w]
      cases d <;> simp_all
    simp [loadVar, Sem.run_bind, hagg, sizeOf, typeInfo, hq, hs, hl]

theorem yieldsIf_load_far {S : World → Prop} (hw : Region.wanted o (yielded ops a.tmps) = true) (ty : TypeId) (x : Operand) (ho : o.op = .load ty x)
    (p : Addr) (hx : a.eval x = .pointer (some p)) (cs : List Value) (d : TypeDesc) (hS : ∀ w, S w → CellsAt w p cs)
    (hu : P.underlying ty = some d) (hd : d.isRow = true) (hi : (P.info? ty).map (·.size) = some cs.length) : YieldsIf P ops S o (.agg cs.toArray) a :=
  .inl ⟨hw, fun w hw' => by
    unfold execOp
    simp only [ho, hx, Instr.loadAt, Instr.sureAddr, Sem.run_bind, Sem.run_pure, Result.andThen_ok, run_load_far p ty cs d (hS w hw') hu hd hi]⟩
end

end Go.Proofs.Ytpjfhbmegabafaa
namespace Go.Proofs.Ytpjfhbmegabafaa
open Go.RowKit
attribute [local irreducible] Sha.compress Sha.blocks Sha.sha Sha.pad

section
variable {ops : Array Oper} {o : Oper} {a : Act} {S : World → Prop}
theorem yieldsIf_hsame (hw : Region.wanted o (yielded ops a.tmps) = true) (x y : Operand) (ty : TypeId) (ho : o.op = .binOp .neq 33 x y ty) (C : List UInt8) (hC : C.length = 32) (hx : a.eval x = .agg (byteCells C).toArray) (hy : a.eval y = .agg (byteCells C).toArray) : YieldsIf Try.prog ops S o (.bool false) a :=
  .inl ⟨hw, fun w _ => by
    have hc := hash_cells C hC
    have hn : (binOp .neq 33 (.agg (byteCells C).toArray) (.agg (byteCells C).toArray)).run Try.prog w = .ok (.bool false) w := by
      have h := hc.eql w
      rw [run_eql_struct] at h
      rw [run_neq_struct]
      cases hq : (Op.equalIn 10000 33 (.agg (byteCells C).toArray) (.agg (byteCells C).toArray)).run Try.prog w with
      | ok b w' =>
        rw [hq] at h
        simp only [Result.andThen_ok, Result.ok.injEq, Value.bool.injEq] at h ⊢
        rw [h.1, h.2]
        exact ⟨rfl, rfl⟩
      | halt e w' =>
        rw [hq] at h
        cases h
    simp only [execOp, ho, hx, hy, Sem.run_bind, hc.guard, hn, Result.andThen_ok, Sem.run_pure]⟩
end
set_option maxHeartbeats 1000000 in
set_option maxRecDepth 100000 in
theorem SameHashs_any (A : Option Addr) (n c : Nat) (xs : List (List UInt8)) (A' : Option Addr) (c' : Nat) (B : Nat) (w : World) (h : Hashs w B A n xs) (hn : n ≤ 100000000000000) (h' : Hashs w B A' n xs) :
    Calls Try.prog 33 #[.slice A n c, .slice A' n c'] w fun e w' => e = .returned (.bool true) ∧ ∃ m, w' = w.drewN m := by
  have g := hid h
  have g' := hid h'
  clear h h'
  go_enter Try.func33, Try.ntmps33
  go_wp2
  go_loopw [5] (fun i wr => ∃ k m : Nat, k ≤ n ∧ i = .int .i64 k ∧ wr = w.drewN m) (fun i _ => n - (intOf i).toNat)
  case atStart => exact ⟨0, 0, Nat.zero_le _, rfl, rfl⟩
  case round =>
    obtain ⟨k, m, hk, rfl, rfl⟩ := hrel
    by_cases hlt : k < n
    · obtain ⟨p, x, rfl, hB, -, hx, hx32, hc⟩ := g.out.get hlt
      obtain ⟨p', x', rfl, hB', -, hx', -, hc'⟩ := g'.out.get hlt
      obtain rfl : x = x' := Option.some.inj (hx.symm.trans hx')
      have hkn : (k : Int) < (n : Int) := by omega
      have hk0 : (0 : Int) ≤ (k : Int) := by omega
      have hto : (k : Int).toNat = k := by omega
      have hcd : CellsAt (w.drewN m).drew (p.add (k * 32)) (byteCells x) := hc
      have hcd' : CellsAt (w.drewN m).drew (p'.add (k * 32)) (byteCells x) := hc'
      have hcd1 := hid hcd
      have hcd2 := hid hcd'
      have hiz := hid (hash_cells x hx32).size'
      clear hx hx' hc hc' hcd hcd'
      go_wp2_with fail
      refine wp_region_held_drew (S := fun W => CellsAt W (p.add (k * 32)) (byteCells x) ∧ CellsAt W (p'.add (k * 32)) (byteCells x)) (by kernel_rfl) (by exact ⟨hcd1.out, hcd2.out⟩) (fun hHeld => ?_)
      refine wpAnyH_take (i := 0) (v := .slice (some p) n c) rfl (by kernel_rfl) (by kernel_rfl) (by kernel_rfl) (fun _ _ _ h => h) (yieldsIf_move _ rfl rfl rfl) hHeld ?_
      simp only [ly1, ly3, Act.put, ly5, ly6, ly7]
      refine wpAnyH_take (i := 1) (v := .int .i64 (k : Int)) rfl (by kernel_rfl) (by kernel_rfl) (by kernel_rfl) (fun _ _ _ h => h) (yieldsIf_move _ rfl rfl rfl) hHeld ?_
      simp only [ly1, ly2, ly3, Act.put, ly5, ly6, ly7]
      refine wpAnyH_take (i := 2) (v := .pointer (some (p.add (k * 32)))) rfl (by kernel_rfl) (by kernel_rfl) (by kernel_rfl) (fun _ _ _ h => h) (.inl ⟨by kernel_rfl, fun w _ => by go_simp⟩) hHeld ?_
      simp only [ly1, ly2, ly3, Act.put, ly5, ly6, ly7]
      refine wpAnyH_take (i := 3) (v := .agg (byteCells x).toArray) rfl (by kernel_rfl) (by kernel_rfl) (by kernel_rfl) (fun _ _ _ h => h) (yieldsIf_load_far (by kernel_rfl) _ _ rfl _ rfl _ _ (fun W h => h.1) Try.underlying33 rfl (by exact hiz.out)) hHeld ?_
      simp only [ly1, ly2, ly3, Act.put, ly5, ly6, ly7]
      refine wpAnyH_take (i := 4) (v := .slice (some p') n c') rfl (by kernel_rfl) (by kernel_rfl) (by kernel_rfl) (fun _ _ _ h => h) (yieldsIf_move _ rfl rfl rfl) hHeld ?_
      simp only [ly1, ly2, ly3, Act.put, ly5, ly6, ly7]
      refine wpAnyH_take (i := 5) (v := .int .i64 (k : Int)) rfl (by kernel_rfl) (by kernel_rfl) (by kernel_rfl) (fun _ _ _ h => h) (yieldsIf_move _ rfl rfl rfl) hHeld ?_
      simp only [ly1, ly2, ly3, Act.put, ly5, ly6, ly7]
      refine wpAnyH_take (i := 6) (v := .pointer (some (p'.add (k * 32)))) rfl (by kernel_rfl) (by kernel_rfl) (by kernel_rfl) (fun _ _ _ h => h) (.inl ⟨by kernel_rfl, fun w _ => by go_simp⟩) hHeld ?_
      simp only [ly1, ly2, ly3, Act.put, ly5, ly6, ly7]
      refine wpAnyH_take (i := 7) (v := .agg (byteCells x).toArray) rfl (by kernel_rfl) (by kernel_rfl) (by kernel_rfl) (fun _ _ _ h => h) (yieldsIf_load_far (by kernel_rfl) _ _ rfl _ rfl _ _ (fun W h => h.2) Try.underlying33 rfl (by exact hiz.out)) hHeld ?_
      simp only [ly1, ly2, ly3, Act.put, ly5, ly6, ly7]
      refine wpAnyH_take (i := 8) (v := .bool false) rfl (by kernel_rfl) (by kernel_rfl) (by kernel_rfl) (fun _ _ _ h => h) (yieldsIf_hsame (by kernel_rfl) _ _ _ rfl x hx32 rfl rfl) hHeld ?_
      simp only [ly1, ly2, ly3, Act.put, ly5, ly6, ly7]
      refine wpAnyH_done (by kernel_rfl) ?_ _
      go_wp2_with fail
      go_roundw
      case rel => exact ⟨k + 1, m + 1, by omega, by go_num, rfl⟩
      case measure => simp [intOf]; omega
    · obtain rfl : k = n := by omega
      go_wp2
      go_ret
      exact ⟨rfl, m, rfl⟩

end Go.Proofs.Ytpjfhbmegabafaa
