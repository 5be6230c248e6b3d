/- Layer 13: awake. -/
import Derived.Test.YtapegklffglnoaaDirLe
import Derived.Test.YtapegklffglnoaaDirP
import Derived.Test.YtapegklffglnoaaNum0
namespace Go.Proofs.Ytapegklffglnoaa
open Go.RowKit

/-! Steps on plain worlds. -/
theorem Ents.on {w w' : World} {A : Option Addr} {n : Nat} {xs : List Ent} (h : Ents w w.heap.size A n xs) (hb : Below w.heap.size w w') : Ents w' w'.heap.size A n xs := (h.below hb).more hb.size
theorem own_head {w : World} {n0 n c : Nat} {A : Option Addr} {cs : List Value} (h : w.ownsRow n0 60 3 (.slice A n c) n cs) (hn : 0 < n) : ∃ g, A = some ⟨g, 0, none⟩ := by
  obtain ⟨-, h0 | ⟨g, cap, cur, hv, -⟩⟩ := h
  · omega
  · cases hv
    exact ⟨g, rfl⟩
theorem ents_one {w : World} (x : Ent) (hx : x.fine) : Ents (w.alloc (.cells x.cells.toArray 60)) (w.heap.size + 1) (some ⟨w.heap.size, 0, none⟩) 1 [x] := by
  refine ⟨rfl, fun y hy => by rw [List.mem_singleton.1 hy]; exact hx, .inr ⟨_, rfl, Nat.lt_succ_self _, fun i hi j v hv => ?_⟩⟩
  have hi0 : i = 0 := by simpa using hi
  subst hi0
  have hh := Holds.new w 60 x.cells.toArray
  rw [add_add, Nat.zero_mul, Nat.zero_add, show (⟨w.heap.size, 0, none⟩ : Addr).add j = ⟨w.heap.size, j, none⟩ from by unfold Addr.add; split <;> simp_all, hh.cell]
  exact hv
/-- A Ref's own variable. -/
theorem ref_var (w : World) (o n : Int) : ∃ V, (w.alloc (.cells #[.int .i64 0, .int .i64 0] 38)).setCells w.heap.size 0 [.int .i64 o, .int .i64 n] = V ∧ Holds V w.heap.size 38 [.int .i64 o, .int .i64 n] ∧ Below w.heap.size w V ∧ (w.alloc (.cells #[.int .i64 0, .int .i64 0] 38)).there w.heap.size 0 2 ∧ w.heap.size + 1 ≤ V.heap.size := by
  have h := Holds.new w 38 #[.int .i64 0, .int .i64 0]
  have h1 := h.put 0 [.int .i64 o, .int .i64 n] (by simp)
  have h2 := below_setCells ((Below.refl w.heap.size w).alloc (Nat.le_refl _) (.cells #[.int .i64 0, .int .i64 0] 38)) w.heap.size 0 [.int .i64 o, .int .i64 n] (Nat.le_refl _)
  exact ⟨_, rfl, h1, h2, h.there 0 2 (by simp), h1.lt⟩

set_option maxRecDepth 100000 in
theorem ref_eql (o n : Int) (w : World) : (binOp .eql 38 (.agg #[.int .i64 o, .int .i64 n]) (.agg #[.int .i64 o, .int .i64 n])).run Try.prog w = .ok (.bool true) w := by
  have hS : Try.prog.underlying 38 = some (.struct (Try.prog.fieldsOf 38)) := by kernel_rfl
  have hp : Try.prog.stoodInHeld 38 = false := by kernel_rfl
  have hi : ∀ (a : Int) (w : World), (Op.equalIn 9999 3 (.int .i64 a) (.int .i64 a)).run Try.prog w = .ok true w := fun a w => by
    have h := run_equalIn_int (P := Try.prog) w 9998 3 .i64 .i64 a a Try.underlying3
    rw [beq_self_eq_true] at h
    exact h
  rw [run_eql_struct, show (10000 : Nat) = 9999 + 1 from rfl, run_equalIn_struct w 9999 _ _ _ hS hp]
  simp only [Program.fieldsOf, Try.underlying38]
  go_simp
set_option maxRecDepth 100000 in
theorem ref_neq (o n : Int) (w : World) : (binOp .neq 38 (.agg #[.int .i64 o, .int .i64 n]) (.agg #[.int .i64 o, .int .i64 n])).run Try.prog w = .ok (.bool false) w := by
  have h := ref_eql o n w
  rw [run_eql_struct] at h
  rw [run_neq_struct]
  cases hq : (Op.equalIn 10000 38 (.agg #[.int .i64 o, .int .i64 n]) (.agg #[.int .i64 o, .int .i64 n])).run Try.prog w with
  | ok b w' =>
    rw [hq] at h
    simp only [Result.andThen_ok, Result.ok.injEq, Value.bool.injEq] at h ⊢
    refine ⟨?_, h.2⟩
    rw [h.1]
    rfl
  | halt e w' =>
    rw [hq] at h
    cases h
theorem ref_guard (op : BinOp) (x y : Operand) (cs ds : Array Value) (w : World) : (eqGuard op 38 x y (.agg cs) (.agg ds)).run Try.prog w = .ok () w := run_eqGuard_agg w op 38 x y _ _ (by kernel_rfl)
section
variable {ops : Array Oper} {rest : List Oper} {op : Oper} {a : Act} {w : World} {Q : Exit → Act → World → Prop}
theorem wpList_ref_eql (hw : Region.wanted op (yielded ops a.tmps) = true) (x y : Operand) (ty : TypeId) (ho : op.op = .binOp .eql 38 x y ty) (o n : Int) (hx : a.eval x = .agg #[.int .i64 o, .int .i64 n]) (hy : a.eval y = .agg #[.int .i64 o, .int .i64 n])
    (h : wpList Try.prog ops Q rest (a.put op.dst (.bool true)) w) : wpList Try.prog ops Q (op :: rest) a w := by
  refine wpList_run_on hw (.bool true) w ?_ h
  simp only [execOp, ho, hx, hy, Sem.run_bind, ref_guard, ref_eql o n, Result.andThen_ok, Sem.run_pure]
theorem wpList_ref_neq (hw : Region.wanted op (yielded ops a.tmps) = true) (x y : Operand) (ty : TypeId) (ho : op.op = .binOp .neq 38 x y ty) (o n : Int) (hx : a.eval x = .agg #[.int .i64 o, .int .i64 n]) (hy : a.eval y = .agg #[.int .i64 o, .int .i64 n])
    (h : wpList Try.prog ops Q rest (a.put op.dst (.bool false)) w) : wpList Try.prog ops Q (op :: rest) a w := by
  refine wpList_run_on hw (.bool false) w ?_ h
  simp only [execOp, ho, hx, hy, Sem.run_bind, ref_guard, ref_neq o n, Result.andThen_ok, Sem.run_pure]
end

/-! Plain facts. -/
theorem RisesE.one (x : Ent) : RisesE 1 [x] := fun i a b hi _ _ => by omega
theorem dir_one {x : Ent} (h : x.may = true) : dirB [x] = true := dirB_yes ⟨by simp, fun y hy => by rw [List.mem_singleton.1 hy]; exact h, RisesE.one x⟩
theorem dir_two {x y : Ent} (hx : x.may = true) (hy : y.may = true) (h : lessB x.name y.name = true) : dirB [x, y] = true := dirB_yes ⟨by simp, fun z hz => by
    rcases List.mem_cons.1 hz with rfl | hz
    · exact hx
    · rw [List.mem_singleton.1 hz]; exact hy, fun i a b hi ha hb => by
    have hi0 : i = 0 := by simp at hi; omega
    subst hi0
    obtain rfl := Option.some.inj ha
    obtain rfl := Option.some.inj hb
    exact h⟩
def ent1 : Ent := ⟨⟨#[97]⟩, 1, 2⟩
def ent2 : Ent := ⟨⟨#[98]⟩, 0, 1⟩
def entX : Ent := ⟨⟨#[47]⟩, 0, 1⟩
theorem ent1_fine : ent1.fine := by show ent1.name.size ≤ 140737488351232; decide +kernel
theorem ent2_fine : ent2.fine := by show ent2.name.size ≤ 140737488351232; decide +kernel
theorem eput1 : eputS [ent1] = (⟨#[68, 1, 1, 97, 1, 2]⟩, 0) := by rw [eputS_yes (dir_one (by decide +kernel))]; congr 1
theorem eget1 : egetS ⟨#[68, 1, 1, 97, 1, 2]⟩ = ([ent1], 0) := by
  have e0 : rmarkS 68 ⟨#[68, 1, 1, 97, 1, 2]⟩ false = (⟨#[1, 1, 97, 1, 2]⟩, false) := by decide +kernel
  have e1 : rnumS ⟨#[1, 1, 97, 1, 2]⟩ false 1 = (1, ⟨#[1, 97, 1, 2]⟩, false) := by decide +kernel
  have e2 : eitemsS (1 : Int).toNat ⟨#[1, 97, 1, 2]⟩ false = ([ent1], ⟨#[]⟩, false) := by kernel_rfl
  rw [egetS_eq e0 e1 e2, dir_one (by decide +kernel)]
  rfl
theorem egetD : egetS ⟨#[68]⟩ = ([], 1300) := egetS_short (by decide +kernel)
theorem eset2 : setS [ent1] ent2 = ([ent1, ent2], 0) := by
  have e : withE [ent1] ent2 = [ent1, ent2] := by kernel_rfl
  unfold setS
  rw [dir_one (by decide +kernel), e, show ent2.may = true from by decide +kernel]
  rfl
theorem esetX : setS [ent1] entX = ([], 1300) := by
  unfold setS
  rw [show entX.may = false from by decide +kernel, Bool.and_false, Bool.false_and]
  rfl
theorem edel1 : removeS [ent1, ent2] ⟨#[97]⟩ = ([ent2], true) := by
  have e : withoutE [ent1, ent2] ⟨#[97]⟩ = [ent2] := by kernel_rfl
  unfold removeS
  rw [dir_two (by decide +kernel) (by decide +kernel) (by decide +kernel), e, show hasE [ent1, ent2] ⟨#[97]⟩ = true from by decide +kernel]
  rfl
theorem efind2 : findE [ent1, ent2] ⟨#[98]⟩ = some ent2 := by kernel_rfl

end Go.Proofs.Ytapegklffglnoaa
