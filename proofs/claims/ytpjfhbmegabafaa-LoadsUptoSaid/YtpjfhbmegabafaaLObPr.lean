/- Whole structs and arrays, wherever their cells begin. No function of the program is named here.
   Guarded operations that are wanted; whole structs loaded so. No function of the program is named here.
   Hashes compared, wherever the operation stands.
   Stores of hashes; stores elsewhere: what stays. No function of the program is named here.
   Layer 11, the program's side: a store in memory; New, Put, Get, Add, Len.
   Layer 11, the program's side: a store's Put, Get, Add, Len.
   Layer 11, the program's side: a store's Get, Len, Add.
   Layer 11, the program's side: a store's Add. -/
import Derived.Test.YtpjfhbmegabafaaLBlkBase
import Derived.Test.YtpjfhbmegabafaaLNumU
import Derived.Deep.AppendLies
import Derived.Test.YtpjfhbmegabafaaLObP
namespace Go.Proofs.Ytpjfhbmegabafaa
open Go.RowKit

section
variable {P : Program} {ops : Array Oper} {o : Oper} {a : Act} {w : World} {Q : Exit → Act → World → Prop}
/-- A whole struct or array, wherever its cells begin. -/
theorem run_loadVar_any (p : Addr) (ty : TypeId) (cs : List Value) (d : TypeDesc) (hc : ∀ j v, cs[j]? = some v → w.cell? (p.add j) = some v)
    (hu : P.underlying ty = some d) (hd : d.isRow = true) (hi : (P.info? ty).map (·.size) = some cs.length) : (loadVar ty p).run P w = .ok (.agg cs.toArray) w := by
  have hl : (loadCells p cs.length).run P w = .ok cs.toArray w := run_loadCells_list (P := P) w p cs hc
  cases hq : P.info? ty with
  | none => simp [hq] at hi
  | some i =>
    have hs : i.size = cs.length := by simpa [hq] using hi
    have hagg : (isAgg ty).run P w = .ok true w := by
      unfold isAgg
      rw [Sem.run_bind, run_underlying hu w]
      cases d <;> simp_all
    simp [loadVar, Sem.run_bind, hagg, sizeOf, typeInfo, hq, hs, hl]

theorem wpList_load_any {rest : List Oper} (hgd : o.guard = none) (ty : TypeId) (x : Operand) (ho : o.op = .load ty x) (p : Addr) (hx : a.eval x = .pointer (some p)) (cs : List Value) (d : TypeDesc) (hc : ∀ j v, cs[j]? = some v → w.cell? (p.add j) = some v)
    (hu : P.underlying ty = some d) (hd : d.isRow = true) (hi : (P.info? ty).map (·.size) = some cs.length) (h : wpList P ops Q rest (a.put o.dst (.agg cs.toArray)) w) : wpList P ops Q (o :: rest) a w :=
  wpList_run hgd _ _ (by
    unfold execOp
    simp only [ho, hx, Instr.loadAt, Instr.sureAddr, Sem.run_bind, Sem.run_pure, Result.andThen_ok, run_loadVar_any p ty cs d hc hu hd hi]) h

theorem yieldsIf_load_any {S : World → Prop} (hw : Region.wanted o (yielded ops a.tmps) = true) (ty : TypeId) (x : Operand) (ho : o.op = .load ty x) (p : Addr) (hx : a.eval x = .pointer (some p)) (cs : List Value) (d : TypeDesc)
    (hS : ∀ w, S w → ∀ j v, cs[j]? = some v → w.cell? (p.add j) = some v) (hu : P.underlying ty = some d) (hd : d.isRow = true) (hi : (P.info? ty).map (·.size) = some cs.length) : YieldsIf P ops S o (.agg cs.toArray) a :=
  .inl ⟨hw, fun w hw' => by
    unfold execOp
    simp only [ho, hx, Instr.loadAt, Instr.sureAddr, Sem.run_bind, Sem.run_pure, Result.andThen_ok, run_loadVar_any p ty cs d (hS w hw') hu hd hi]⟩
end

end Go.Proofs.Ytpjfhbmegabafaa
namespace Go.Proofs.Ytpjfhbmegabafaa
open Go.RowKit

theorem wp_run' {P : Program} {o : Oper} {a : Act} {w : World} {K : Act → World → Prop} {Q : Exit → Act → World → Prop} (v : Value) (w' : World) (hrun : (execOp a.eval o).run P w = .ok (.value v) w') (h : K (a.put o.dst v) w') : o.wp P a w K Q := by
  unfold Oper.wp
  rw [hrun, Oper.upon_value]
  exact h

section
variable {P : Program} {ops : Array Oper} {rest : List Oper} {o : Oper} {a : Act} {w : World} {Q : Exit → Act → World → Prop}
end


theorem wp_buildOne {P : Program} {o : Oper} {a : Act} {w : World} {K : Act → World → Prop} {Q : Exit → Act → World → Prop} (t e : TypeId) (x : Operand) (ho : o.op = .buildSlice t 1 #[(0, x)]) (i : TypeInfo) (z : Value) (ht : P.underlying t = some (.slice e)) (hi : P.info? e = some i) (hz : i.zero = some z)
    (H : Array Value) (hx : a.eval x = .agg H) (hn : i.size = H.size) (h0 : 0 < H.size) (h1 : H.size ≤ 1000000) (h : K (a.put o.dst (.slice (some ⟨w.heap.size, 0, none⟩) 1 1)) (w.alloc (.cells H e))) : o.wp P a w K Q :=
  wp_run' _ _ (by
    unfold execOp
    simp only [ho, List.map_toArray, List.map_cons, List.map_nil, hx]
    simp [run_buildSlice_one (w := w) t e i z ht hi hz H hn h0 h1]) h

end Go.Proofs.Ytpjfhbmegabafaa
namespace Go.Proofs.Ytpjfhbmegabafaa
open Go.RowKit

theorem zh_eql (C D : List UInt8) (hC : C.length = 32) (hD : D.length = 32) (w : World) : (binOp .eql 33 (.agg (byteCells C).toArray) (.agg (byteCells D).toArray)).run Try.prog w = .ok (.bool (C == D)) w :=
  run_eql_bytes w 33 5 32 Try.underlying33 Try.underlying5 sizeU8_run C D hC hD
theorem zh_guard (op : BinOp) (x y : Operand) (C D : List UInt8) (w : World) : (eqGuard op 33 x y (.agg (byteCells C).toArray) (.agg (byteCells D).toArray)).run Try.prog w = .ok () w := hv_guard op x y C D w

section
variable {ops : Array Oper} {rest : List Oper} {o : Oper} {a : Act} {w : World} {Q : Exit → Act → World → Prop} {S : World → Prop}
theorem yieldsIf_zeql (hw : Region.wanted o (yielded ops a.tmps) = true) (x y : Operand) (ty : TypeId) (ho : o.op = .binOp .eql 33 x y ty) (C D : List UInt8) (hC : C.length = 32) (hD : D.length = 32) (r : Bool) (hr : (C == D) = r) (hx : a.eval x = .agg (byteCells C).toArray) (hy : a.eval y = .agg (byteCells D).toArray) : YieldsIf Try.prog ops S o (.bool r) a :=
  .inl ⟨hw, fun w _ => by subst hr; simp only [execOp, ho, hx, hy, Sem.run_bind, zh_guard, zh_eql C D hC hD, Result.andThen_ok, Sem.run_pure]⟩
end

end Go.Proofs.Ytpjfhbmegabafaa
namespace Go.Proofs.Ytpjfhbmegabafaa
open Go.RowKit

theorem HashCells.set {cs ds : List Value} (hc : HashCells cs) {w W W3 : World} {g : Nat} (h : Holds W g 33 ds) (hd : ds.length = 32) (e : W.setCells g 0 cs = W3) (hb : Below w.heap.size w W) (hg : w.heap.size ≤ g) : Holds W3 g 33 cs ∧ Below w.heap.size w W3 := by
  subst e
  have h1 := h.put 0 cs (by rw [hc.len, hd]; decide)
  rw [put_all _ _ (by rw [hc.len, hd])] at h1
  exact ⟨h1, below_setCells hb _ _ _ hg⟩

theorem cells_far (w : World) (g o : Nat) (vs : List Value) (k : Nat) (h : k ≠ g) : (w.setCells g o vs).heap[k]? = w.heap[k]? := by
  induction vs generalizing w o with
  | nil => rfl
  | cons v vs ih => exact (ih _ (o + 1)).trans (heap_setCell_other w ⟨g, o, none⟩ k v h)

theorem row_of_blocks {w w' : World} {B n size : Nat} {e : TypeId} {v : Value} {xs : List Value} (h : w.ownsRow B e size v n xs) (hb : ∀ k, v.ownBlock = some k → w'.heap[k]? = w.heap[k]?) : w'.ownsRow B e size v n xs := by
  refine ⟨h.1, ?_⟩
  rcases h.2 with hn | ⟨q, cap, cur, hv, hb', hq, rest⟩
  · exact .inl hn
  · exact .inr ⟨q, cap, cur, hv, hb', (hb q (by rw [hv]; rfl)).trans hq, rest⟩

theorem wp_run {P : Program} {o : Oper} {a : Act} {w : World} {K : Act → World → Prop} {Q : Exit → Act → World → Prop} (v : Value) (w' : World) (hrun : (execOp a.eval o).run P w = .ok (.value v) w') (h : K (a.put o.dst v) w') : o.wp P a w K Q := by
  unfold Oper.wp
  rw [hrun, Oper.upon_value]
  exact h

theorem holds_far {w W : World} {g b o : Nat} {t : TypeId} {cs vs : List Value} (h : Holds w g t cs) (hg : g ≠ b) (e : w.setCells b o vs = W) : Holds W g t cs := by
  subst e
  exact h.fars b o vs hg

theorem row_far {w W : World} {B n size b o : Nat} {e : TypeId} {v : Value} {xs vs : List Value} (h : w.ownsRow B e size v n xs) (hne : v.ownBlock ≠ some b) (he : w.setCells b o vs = W) : W.ownsRow B e size v n xs := by
  subst he
  exact row_of_blocks h fun k hk => cells_far _ _ _ _ _ fun h => hne (by rw [hk, h])

theorem below_put {a w W : World} {B b o : Nat} {vs : List Value} (h : Below B a w) (hb : B ≤ b) (e : w.setCells b o vs = W) : Below B a W := by
  subst e
  exact below_setCells h b o vs hb
theorem Holds.over {W W3 : World} {g : Nat} {t : TypeId} {cs ds : List Value} (h : Holds W g t ds) (hl : cs.length = ds.length) (e : W.setCells g 0 cs = W3) : Holds W3 g t cs := by
  subst e
  have h1 := h.put 0 cs (by rw [hl]; omega)
  rw [put_all _ _ hl] at h1
  exact h1


end Go.Proofs.Ytpjfhbmegabafaa
namespace Go.Proofs.Ytpjfhbmegabafaa
open Go.RowKit
open Go.Lib (strCells strCells_length strCells_oneCell)
attribute [local irreducible] Sha.compress Sha.blocks Sha.sha Sha.pad

theorem gr_of {w w' : World} (h : Below w.heap.size w w') (row : Option Nat) : w.grownBy w' row := ⟨h.os, h.tape, h.output, h.size, fun k hk _ => h.block k hk⟩
theorem gr_trans {a b c : World} {row : Option Nat} (h : a.grownBy b row) (k : b.grownBy c row) : a.grownBy c row :=
  ⟨k.os.trans h.os, k.tape.trans h.tape, k.output.trans h.output, Nat.le_trans h.size k.size, fun i hi hr => (k.block i (Nat.lt_of_lt_of_le hi h.size) hr).trans (h.block i hi hr)⟩
theorem Holds.cO {w : World} {g : Nat} {t : TypeId} {cs : List Value} (h : Holds w g t cs) (j : Nat) (v : Value) (hv : cs[j]? = some v) : w.cell? ⟨g, j, none⟩ = some v := (h.cell j).trans hv
theorem Holds.anyO {w : World} {g : Nat} {t : TypeId} {cs : List Value} (h : Holds w g t cs) : ∀ j v, cs[j]? = some v → w.cell? ((⟨g, 0, none⟩ : Addr).add j) = some v := fun j v hv => by
  rw [show (⟨g, 0, none⟩ : Addr).add j = ⟨g, j, none⟩ from by unfold Addr.add; split <;> simp_all, h.cell]
  exact hv

/-- An object's cells. -/
structure ObC (cs : List Value) : Prop where
  len : cs.length = 33
  one : cs.toArray.all (·.oneCell') = true
  size : (Try.prog.info? 85).map (·.size) = some cs.toArray.size
  size' : (Try.prog.info? 85).map (·.size) = some cs.length
theorem ob_cells (l : List UInt8) (hl : l.length = 32) (d : ByteArray) : ObC (obCells (l, d)) := by
  have hlen : (obCells (l, d)).length = 33 := by unfold obCells; rw [List.length_append, byteCells, List.length_map, hl]; rfl
  have hinfo : (Try.prog.info? 85).map (·.size) = some 33 := by kernel_rfl
  refine ⟨hlen, ?_, by rw [List.size_toArray, hlen]; exact hinfo, by rw [hlen]; exact hinfo⟩
  refine all_oneCell_toArray (fun v hv => ?_)
  rcases List.mem_append.1 hv with h | h
  · exact byteCells_one l v h
  · rw [List.mem_singleton.1 h]; rfl
def zOb : List Value := obCells (List.replicate 32 0, ⟨#[]⟩)
theorem ObC.there {cs : List Value} (h : ObC cs) (W : World) : (W.alloc (.cells zOb.toArray 85)).there W.heap.size 0 cs.toArray.size := (Holds.new W 85 zOb.toArray).there 0 _ (by rw [List.size_toArray, h.len]; exact Nat.le_refl 33)
theorem ObC.new {cs : List Value} (hc : ObC cs) {W W7 : World} (h : (W.alloc (.cells zOb.toArray 85)).setCells W.heap.size 0 cs = W7) : Holds W7 W.heap.size 85 cs ∧ Below W.heap.size W W7 := by
  have hH := Holds.new W 85 zOb.toArray
  have hb : Below W.heap.size W (W.alloc (.cells zOb.toArray 85)) := (Below.refl _ _).alloc (Nat.le_refl _) _
  have hl : cs.length = zOb.toArray.toList.length := by rw [hc.len]; rfl
  refine ⟨?_, below_put hb (Nat.le_refl _) h⟩
  have h1 := hH.put 0 cs (by rw [hl]; exact Nat.le_of_eq (Nat.zero_add _))
  rw [h, put_all _ _ hl] at h1
  exact h1

/-- A store in memory: its own block s, its map's b. -/
def StoreAt (w : World) (s b most : Nat) (m : Obs) : Prop := Holds w s 79 [.map (some b), .int .i64 (most : Int)] ∧ MapAt w b (m.map obEnc) ∧ ObOk m ∧ most ≤ 1024 ∧ m.length ≤ most
theorem StoreAt.below {w w' : World} {s b most B : Nat} {m : Obs} (h : StoreAt w s b most m) (hb : Below B w w') (h1 : s < B) (h2 : b < B) : StoreAt w' s b most m := ⟨h.1.below hb h1, h.2.1.below hb h2, h.2.2⟩
theorem StoreAt.on {w w' : World} {s b most : Nat} {m : Obs} (h : StoreAt w s b most m) (hb : Below w.heap.size w w') : StoreAt w' s b most m := h.below hb h.1.lt h.2.1.lt
theorem StoreAt.own {w : World} {s b most : Nat} {m : Obs} (h : StoreAt w s b most m) : Holds w s 79 [.map (some b), .int .i64 (most : Int)] := h.1
theorem StoreAt.ne {w : World} {s b most : Nat} {m : Obs} (h : StoreAt w s b most m) : s ≠ b := fun e => by
  obtain ⟨es, clock, hb, _⟩ := h.2.1
  have h1 := h.1
  unfold Holds at h1
  rw [e, hb] at h1
  cases h1
theorem StoreAt.far {w W : World} {s b most : Nat} {m : Obs} (h : StoreAt w s b most m) {g o : Nat} {vs : List Value} (h1 : s ≠ g) (h2 : b ≠ g) (e : w.setCells g o vs = W) : StoreAt W s b most m := by
  subst e
  exact ⟨h.1.fars g o vs h1, h.2.1.fars g o vs h2, h.2.2⟩
theorem obZero (w : World) : (zeroValue 85).run Try.prog w = .ok (.agg zOb.toArray) w := by kernel_rfl
theorem StoreAt.look {w : World} {s b most : Nat} {m : Obs} (h : StoreAt w s b most m) {k : List UInt8} (hk : k.length = 32) :
    (obGet m k = none → (Instr.lookup 75 (.map (some b)) (.agg (byteCells k).toArray) true).run Try.prog w = .ok (.tuple #[.agg zOb.toArray, .bool false]) w) ∧
      (∀ d, obGet m k = some d → (Instr.lookup 75 (.map (some b)) (.agg (byteCells k).toArray) true).run Try.prog w = .ok (.tuple #[.agg (obCells (k, d)).toArray, .bool true]) w) := by
  obtain ⟨kl, hkl⟩ := hash_key k hk
  have hl := h.2.1.look (P := Try.prog) true hash_keyed (obKeys h.2.2.1) Try.underlying75 (obZero w) hkl
  rcases hl with ⟨h1, h2⟩ | ⟨v, h1, h2⟩
  · exact ⟨fun _ => h1, fun d hd => by rw [mget_none.1 h2] at hd; cases hd⟩
  · obtain ⟨d, hd, rfl⟩ := mget_some h.2.2.1 h2
    refine ⟨fun hn => (by rw [hn] at hd; cases hd), fun d' hd' => ?_⟩
    rw [hd] at hd'
    cases hd'
    exact h1
theorem StoreAt.add {w : World} {s b most : Nat} {m : Obs} (h : StoreAt w s b most m) {d : ByteArray} (hn : obGet m (obHash d) = none) (hm : m.length < most) :
    ∃ w', (Instr.mapUpdate 75 (.map (some b)) (.agg (byteCells (obHash d)).toArray) (.agg (obCells (obHash d, d)).toArray)).run Try.prog w = .ok () w' ∧ StoreAt w' s b most (m ++ [(obHash d, d)]) ∧ w.grownBy w' (some b) ∧ w'.heap.size = w.heap.size ∧ ∀ i, i ≠ b → w'.heap[i]? = w.heap[i]? := by
  obtain ⟨kl, hkl⟩ := hash_key _ (obHash_len d)
  obtain ⟨w', h1, h2, h3, h4, h5⟩ := h.2.1.put (P := Try.prog) hash_keyed (obKeys h.2.2.1) Try.underlying75 hkl (mget_none.2 hn) (.agg (obCells (obHash d, d)).toArray)
  refine ⟨w', h1, ⟨(h4 s h.ne).trans h.1, ?_, h.2.2.1.add hn, h.2.2.2.1, by rw [List.length_append]; exact hm⟩, h5, h3, h4⟩
  rw [List.map_append]
  exact h2
theorem StoreAt.len {w : World} {s b most : Nat} {m : Obs} (h : StoreAt w s b most m) (ty : TypeId) : (Builtin.len_ #[75] ty #[.map (some b)]).run Try.prog w = .ok (.int .i64 (m.length : Int)) w := by
  have := h.2.1.len (P := Try.prog) Try.underlying75 ty
  rwa [List.length_map] at this

theorem tag1_any (t : Nat) (ht : t ≤ 4) (d : ByteArray) (hd : d.size ≤ 65536) (n : Nat) (w : World) :
    Calls Try.prog 62 #[.int .i64 (t : Int), .slice (some ⟨w.heap.size, 0, none⟩) 1 n] (w.alloc (.cells #[.string d] 9)) fun e w' => e = .returned (.tuple #[.agg (byteCells (Sha.sha (tagL t [d]))).toArray, .int .i64 0]) ∧ Below w.heap.size w w' := by
  have hX := Texts.new w [d] #[.string d] rfl 1 rfl 9
  have hz : ∀ s ∈ [d], s.size ≤ 140737488351232 := fun s h => by rw [List.mem_singleton.1 h]; omega
  have hm : tagMay (t : Int) [d] = true := by
    unfold tagMay
    refine decide_eq_true ⟨by omega, by omega, ?_⟩
    simp only [totS]
    omega
  refine (tagSum_any (t : Int) _ 1 n _ _ hX (by decide) hz).mono ?_
  rintro e w' ⟨rfl, hb⟩
  have hb0 : Below w.heap.size w (w.alloc (.cells #[.string d] 9)) := (Below.refl _ _).alloc (Nat.le_refl _) _
  refine ⟨?_, hb0.trans (hb.mono hb0.size)⟩
  unfold tagAns
  rw [if_pos hm]
  rfl

end Go.Proofs.Ytpjfhbmegabafaa
namespace Go.Proofs.Ytpjfhbmegabafaa
open Go.RowKit
open Go.Lib (strCells strCells_length strCells_oneCell)
attribute [local irreducible] Sha.compress Sha.blocks Sha.sha Sha.pad

theorem ob_build (l : List UInt8) (d : ByteArray) : (obCells (l, d)).toArray = (byteCells l).toArray ++ #[.string d] := by unfold obCells; simp
end Go.Proofs.Ytpjfhbmegabafaa
namespace Go.Proofs.Ytpjfhbmegabafaa
open Go.RowKit
open Go.Lib (strCells strCells_length strCells_oneCell)
attribute [local irreducible] Sha.compress Sha.blocks Sha.sha Sha.pad

end Go.Proofs.Ytpjfhbmegabafaa
namespace Go.Proofs.Ytpjfhbmegabafaa
open Go.RowKit
open Go.Lib (strCells strCells_length strCells_oneCell)
attribute [local irreducible] Sha.compress Sha.blocks Sha.sha Sha.pad

end Go.Proofs.Ytpjfhbmegabafaa
