/- Operations of a drawn region taken by hand. No function of the program is named here. -/
import Derived.Test.YtmfajekfipfjpaaWords
import Derived.Deep.RegionHeld3
import Derived.Deep.Quiet
import Derived.Deep.RegionWith
namespace Go.Proofs.Ytmfajekfipfjpaa
open Go.RowKit

theorem yieldsIf_move {P : Program} {ops : Array Oper} {S : World → Prop} {o : Oper} {a : Act} {v : Value} (x : Operand) (hg : o.guard = none) (ho : o.op = .move x) (hv : a.eval x = v) : YieldsIf P ops S o v a :=
  .inl ⟨by simp [Region.wanted, hg], fun w _ => by subst hv; simp [execOp, ho]⟩

theorem yieldsIf_assign {P : Program} {ops : Array Oper} {S : World → Prop} {o : Oper} {a : Act} {v : Value} (x : Operand) (hg : o.guard = none) (ho : o.op = .assign x) (hv : a.eval x = v) : YieldsIf P ops S o v a :=
  .inl ⟨by simp [Region.wanted, hg], fun w _ => by subst hv; simp [execOp, ho]⟩

theorem yieldsIf_pick {P : Program} {ops : Array Oper} {S : World → Prop} {o : Oper} {a : Act} {v : Value} {b : Bool} (c x y : Operand) (hg : o.guard = none) (ho : o.op = .pick c x y) (hc : a.eval c = .bool b) (hv : a.eval (if b then x else y) = v) : YieldsIf P ops S o v a :=
  .inl ⟨by simp [Region.wanted, hg], fun w _ => by subst hv; cases b <;> simp [execOp, ho, hc, asBool]⟩

end Go.Proofs.Ytmfajekfipfjpaa
