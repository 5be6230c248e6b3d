/- Hashes compared, wherever the operation stands. -/
import Derived.Test.YtpjfhbmegabafaaHashR
import Derived.Test.YtpjfhbmegabafaaLoadOn
namespace Go.Proofs.Ytpjfhbmegabafaa
open Go.RowKit

theorem zh_eql (C D : List UInt8) (hC : C.length = 32) (hD : D.length = 32) (w : World) : (binOp .eql 33 (.agg (byteCells C).toArray) (.agg (byteCells D).toArray)).run Try.prog w = .ok (.bool (C == D)) w :=
  run_eql_bytes w 33 5 32 Try.underlying33 Try.underlying5 sizeU8_run C D hC hD
theorem zh_neq (C D : List UInt8) (hC : C.length = 32) (hD : D.length = 32) (w : World) : (binOp .neq 33 (.agg (byteCells C).toArray) (.agg (byteCells D).toArray)).run Try.prog w = .ok (.bool (!(C == D))) w := by
  have h := zh_eql C D hC hD w
  rw [run_eql_struct] at h
  rw [run_neq_struct]
  cases hq : (Op.equalIn 10000 33 (.agg (byteCells C).toArray) (.agg (byteCells D).toArray)).run Try.prog w with
  | ok b w' =>
    rw [hq] at h
    simp only [Result.andThen_ok, Result.ok.injEq, Value.bool.injEq] at h ⊢
    rw [h.1, h.2]
    exact ⟨rfl, rfl⟩
  | halt e w' =>
    rw [hq] at h
    cases h
theorem zh_guard (op : BinOp) (x y : Operand) (C D : List UInt8) (w : World) : (eqGuard op 33 x y (.agg (byteCells C).toArray) (.agg (byteCells D).toArray)).run Try.prog w = .ok () w := hv_guard op x y C D w

section
variable {ops : Array Oper} {rest : List Oper} {o : Oper} {a : Act} {w : World} {Q : Exit → Act → World → Prop} {S : World → Prop}
theorem wpList_zeql (hw : Region.wanted o (yielded ops a.tmps) = true) (x y : Operand) (ty : TypeId) (ho : o.op = .binOp .eql 33 x y ty) (C D : List UInt8) (hC : C.length = 32) (hD : D.length = 32) (r : Bool) (hr : (C == D) = r) (hx : a.eval x = .agg (byteCells C).toArray) (hy : a.eval y = .agg (byteCells D).toArray)
    (h : wpList Try.prog ops Q rest (a.put o.dst (.bool r)) w) : wpList Try.prog ops Q (o :: rest) a w :=
  wpList_run_on hw (.bool r) w (by subst hr; simp only [execOp, ho, hx, hy, Sem.run_bind, zh_guard, zh_eql C D hC hD, Result.andThen_ok, Sem.run_pure]) h
theorem wpList_zneq (hw : Region.wanted o (yielded ops a.tmps) = true) (x y : Operand) (ty : TypeId) (ho : o.op = .binOp .neq 33 x y ty) (C D : List UInt8) (hC : C.length = 32) (hD : D.length = 32) (r : Bool) (hr : (C == D) = r) (hx : a.eval x = .agg (byteCells C).toArray) (hy : a.eval y = .agg (byteCells D).toArray)
    (h : wpList Try.prog ops Q rest (a.put o.dst (.bool (!r))) w) : wpList Try.prog ops Q (o :: rest) a w :=
  wpList_run_on hw (.bool (!r)) w (by subst hr; simp only [execOp, ho, hx, hy, Sem.run_bind, zh_guard, zh_neq C D hC hD, Result.andThen_ok, Sem.run_pure]) h
theorem yieldsIf_zeql (hw : Region.wanted o (yielded ops a.tmps) = true) (x y : Operand) (ty : TypeId) (ho : o.op = .binOp .eql 33 x y ty) (C D : List UInt8) (hC : C.length = 32) (hD : D.length = 32) (r : Bool) (hr : (C == D) = r) (hx : a.eval x = .agg (byteCells C).toArray) (hy : a.eval y = .agg (byteCells D).toArray) : YieldsIf Try.prog ops S o (.bool r) a :=
  .inl ⟨hw, fun w _ => by subst hr; simp only [execOp, ho, hx, hy, Sem.run_bind, zh_guard, zh_eql C D hC hD, Result.andThen_ok, Sem.run_pure]⟩
theorem yieldsIf_zneq (hw : Region.wanted o (yielded ops a.tmps) = true) (x y : Operand) (ty : TypeId) (ho : o.op = .binOp .neq 33 x y ty) (C D : List UInt8) (hC : C.length = 32) (hD : D.length = 32) (r : Bool) (hr : (C == D) = r) (hx : a.eval x = .agg (byteCells C).toArray) (hy : a.eval y = .agg (byteCells D).toArray) : YieldsIf Try.prog ops S o (.bool (!r)) a :=
  .inl ⟨hw, fun w _ => by subst hr; simp only [execOp, ho, hx, hy, Sem.run_bind, zh_guard, zh_neq C D hC hD, Result.andThen_ok, Sem.run_pure]⟩
end

end Go.Proofs.Ytpjfhbmegabafaa
