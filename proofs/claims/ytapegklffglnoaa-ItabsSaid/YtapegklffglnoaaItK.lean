/- Layer 14: KeptInodes. -/
import Derived.Test.YtapegklffglnoaaItL
import Derived.Test.YtapegklffglnoaaItR
namespace Go.Proofs.Ytapegklffglnoaa
open Go.RowKit

theorem wp_run' {P : Program} {o : Oper} {a : Act} {w : World} {K : Act → World → Prop} {Q : Exit → Act → World → Prop} (v : Value) (w' : World) (hrun : (execOp a.eval o).run P w = .ok (.value v) w') (h : K (a.put o.dst v) w') : o.wp P a w K Q := by
  unfold Oper.wp
  rw [hrun, Oper.upon_value]
  exact h

section
variable {P : Program} {ops : Array Oper} {rest : List Oper} {o : Oper} {a : Act} {w : World} {Q : Exit → Act → World → Prop}
theorem wpList_run_on (hw : Region.wanted o (yielded ops a.tmps) = true) (v : Value) (w' : World) (hrun : (execOp a.eval o).run P w = .ok (.value v) w') (h : wpList P ops Q rest (a.put o.dst v) w') : wpList P ops Q (o :: rest) a w :=
  wpList_step fun _ hK => by
    rw [if_pos hw]
    exact wp_run' v w' hrun (hK _ _ h)
theorem wpList_load_any_on (hw : Region.wanted o (yielded ops a.tmps) = true) (ty : TypeId) (x : Operand) (ho : o.op = .load ty x) (p : Addr) (hx : a.eval x = .pointer (some p)) (cs : List Value) (d : TypeDesc)
    (hc : ∀ j v, cs[j]? = some v → w.cell? (p.add j) = some v) (hu : P.underlying ty = some d) (hd : d.isRow = true) (hi : (P.info? ty).map (·.size) = some cs.length) (h : wpList P ops Q rest (a.put o.dst (.agg cs.toArray)) w) : wpList P ops Q (o :: rest) a w :=
  wpList_run_on hw _ _ (by
    unfold execOp
    simp only [ho, hx, Instr.loadAt, Instr.sureAddr, Sem.run_bind, Sem.run_pure, Result.andThen_ok, run_loadVar_any p ty cs d hc hu hd hi]) h
end

theorem ino_eql (x : Ino) (hx : x.fine) (w : World) : (binOp .eql 78 (.agg x.cells.toArray) (.agg x.cells.toArray)).run Try.prog w = .ok (.bool true) w := by
  have h := ino_neq x hx w
  rw [run_neq_struct] at h
  rw [run_eql_struct]
  cases hq : (Op.equalIn 10000 78 (.agg x.cells.toArray) (.agg x.cells.toArray)).run Try.prog w with
  | ok b w' =>
    rw [hq] at h
    simp only [Result.andThen_ok, Result.ok.injEq, Value.bool.injEq] at h ⊢
    refine ⟨?_, h.2⟩
    cases b
    · exact absurd h.1 (by decide)
    · rfl
  | halt e w' =>
    rw [hq] at h
    cases h

theorem wpList_ino_on {ops : Array Oper} {rest : List Oper} {o : Oper} {a : Act} {w : World} {Q : Exit → Act → World → Prop} (hw : Region.wanted o (yielded ops a.tmps) = true) (x y : Operand) (ty : TypeId) (ho : o.op = .binOp .eql 78 x y ty) (i : Ino) (hi : i.fine) (hx : a.eval x = .agg i.cells.toArray) (hy : a.eval y = .agg i.cells.toArray)
    (h : wpList Try.prog ops Q rest (a.put o.dst (.bool true)) w) : wpList Try.prog ops Q (o :: rest) a w := by
  refine wpList_run_on hw (.bool true) w ?_ h
  simp only [execOp, ho, hx, hy, Sem.run_bind, ino_guard, ino_eql i hi, Result.andThen_ok, Sem.run_pure]

theorem Inos.front {w : World} {B n m : Nat} {A : Option Addr} {xs ys : List Ino} (h : Inos w B A m (xs ++ ys)) (hn : xs.length = n) : Inos w B A n xs := by
  refine ⟨hn, fun x hx => h.2.1 x (List.mem_append_left _ hx), ?_⟩
  rcases h.2.2 with h0 | ⟨p, hA, hB, hc⟩
  · have := h.1
    rw [List.length_append] at this
    exact .inl (by omega)
  · refine .inr ⟨p, hA, hB, fun i hi j v hv => ?_⟩
    have h1 : i < (xs ++ ys).length := by rw [List.length_append]; omega
    have h2 := hc i h1 j v (by rw [List.getElem_append_left hi]; exact hv)
    exact h2

set_option maxRecDepth 100000 in
set_option maxHeartbeats 2000000 in
theorem KeptInos_any {w : World} (A : Option Addr) (n c : Nat) (xs : List Ino) (A' : Option Addr) (c' : Nat) (B B' : Nat) (hx : Inos w B' A' n xs) (hn : n ≤ 9000000000000) (hc : n + 2 ≤ c) (h : Inos w B A (n + 2) (xs ++ roomInos)) (hB : B ≤ w.heap.size) (hB' : B' ≤ w.heap.size) :
    Calls Try.prog 46 #[.slice A n c, .slice A' n c'] w fun e w' => e = .returned (.bool true) ∧ Below w.heap.size w w' := by
  have hl := hx.1
  have hh := hid (h.more hB)
  obtain ⟨p, rfl⟩ : ∃ p, A = some p := by
    rcases h.at_ with h0 | h0
    · omega
    · exact h0
  have a1 : (xs ++ roomInos)[n]? = some roomIno := by rw [List.getElem?_append_right (by omega), hl, Nat.sub_self]; rfl
  have a2 : (xs ++ roomInos)[n + 1]? = some roomIno := by rw [List.getElem?_append_right (by omega), hl, Nat.add_sub_cancel_left]; rfl
  have c1 := hid (sameInos_any (some p) A' n c c' B B' xs w (h.front hl) hx hB hB' (by omega))
  have hi1 : (Try.prog.info? 78).map (·.size) = some roomIno.cells.length := by rw [Ino.len room_fine]; exact Try.infoIno
  have a1' := hid a1
  have a2' := hid a2
  clear hx h a1 a2
  go_enter Try.func46, Try.ntmps46
  go_wp2_with fail
  refine c1.out.mono ?_
  rintro e W ⟨rfl, hb⟩
  have r1 := hid ((hh.out.below hb).cells_at a1'.out)
  have r2 := hid ((hh.out.below hb).cells_at a2'.out)
  have hb' := hid hb
  clear hb c1
  have n1 : (n : Int) + 1 < (n : Int) + 2 := by omega
  have n2 : (0 : Int) ≤ (n : Int) + 1 := by omega
  have n3 : ((n : Int) + 1).toNat = n + 1 := by omega
  have n4 : (n : Int) < (n : Int) + 2 := by omega
  have n5 := IntWalk.i64_in ((n : Int) + 1) (by omega)
  go_wp2_with (first
    | ((with_reducible refine at_slot (some 19) ?_); refine wpList_load_any_on (by kernel_rfl) 78 (.tmp 18) rfl (p.add (n * 37)) rfl roomIno.cells _ (by exact r1.out) Try.underlying78 rfl (by exact hi1) ?_)
    | ((with_reducible refine at_slot (some 20) ?_); refine wpList_run_on (by kernel_rfl) (.agg roomIno.cells.toArray) W (by kernel_rfl) ?_)
    | ((with_reducible refine at_slot (some 21) ?_); refine wpList_ino_on (by kernel_rfl) (.tmp 19) (.tmp 20) _ rfl roomIno room_fine rfl rfl ?_)
    | ((with_reducible refine at_slot (some 29) ?_); refine wpList_load_any_on (by kernel_rfl) 78 (.tmp 28) rfl (p.add ((n + 1) * 37)) rfl roomIno.cells _ (by exact r2.out) Try.underlying78 rfl (by exact hi1) ?_)
    | ((with_reducible refine at_slot (some 30) ?_); refine wpList_run_on (by kernel_rfl) (.agg roomIno.cells.toArray) W (by kernel_rfl) ?_)
    | ((with_reducible refine at_slot (some 31) ?_); refine wpList_ino_on (by kernel_rfl) (.tmp 29) (.tmp 30) _ rfl roomIno room_fine rfl rfl ?_)
    | fail)
  go_ret
  exact ⟨rfl, hb'.out⟩

end Go.Proofs.Ytapegklffglnoaa
