/- Layer 14: the statements' SameInodes, of like inodes. -/
import Derived.Test.YtapegklffglnoaaItP
import Derived.Stop.BytesEq
namespace Go.Proofs.Ytapegklffglnoaa
open Go.RowKit
open Go.Lib (strCells strCells_length strCells_oneCell)

theorem sizeU8_run' (w : World) : (sizeOf 5).run Try.prog w = .ok 1 w := by kernel_rfl

set_option maxRecDepth 100000 in
set_option maxHeartbeats 2000000 in
theorem ino_neq (x : Ino) (hx : x.fine) (w : World) : (binOp .neq 78 (.agg x.cells.toArray) (.agg x.cells.toArray)).run Try.prog w = .ok (.bool false) w := by
  have hS : Try.prog.underlying 78 = some (.struct (Try.prog.fieldsOf 78)) := by kernel_rfl
  have hp : Try.prog.stoodInHeld 78 = false := by kernel_rfl
  have hb : (Op.equalIn 9999 76 (.agg (hcells x.root)) (.agg (hcells x.root))).run Try.prog w = .ok true w := by
    have h := run_equalIn_bytes (P := Try.prog) w 9997 76 5 32 Try.underlying76 Try.underlying5 sizeU8_run' x.root.data.toList x.root.data.toList (by rw [data_length]; exact hx) (by rw [data_length]; exact hx)
    rw [beq_self_eq_true] at h
    exact h
  have hi : ∀ (a : Int) (w : World), (Op.equalIn 9999 3 (.int .i64 a) (.int .i64 a)).run Try.prog w = .ok true w := fun a w => by
    have h := run_equalIn_int (P := Try.prog) w 9998 3 .i64 .i64 a a Try.underlying3
    rw [beq_self_eq_true] at h
    exact h
  obtain ⟨h0, h1, h2, h3, h4⟩ := x.at_
  have hE : x.cells.toArray.extract 5 37 = hcells x.root := by
    unfold Ino.cells hcells
    apply Array.toList_inj.1
    have hl : (strCells x.root).length = 32 := by rw [strCells_length]; exact hx
    simp [hl]
    exact List.take_of_length_le (Nat.le_of_eq hl)
  have hz : x.cells.toArray.size = 37 := by rw [List.size_toArray, Ino.len hx]
  generalize x.cells.toArray = C at h0 h1 h2 h3 h4 hE hz ⊢
  rw [run_neq_struct, show (10000 : Nat) = 9999 + 1 from rfl, run_equalIn_struct w 9999 _ _ _ hS hp]
  simp only [Program.fieldsOf, Try.underlying78]
  obtain ⟨p0, g0⟩ := Array.getElem?_eq_some_iff.1 h0
  obtain ⟨p1, g1⟩ := Array.getElem?_eq_some_iff.1 h1
  obtain ⟨p2, g2⟩ := Array.getElem?_eq_some_iff.1 h2
  obtain ⟨p3, g3⟩ := Array.getElem?_eq_some_iff.1 h3
  obtain ⟨p4, g4⟩ := Array.getElem?_eq_some_iff.1 h4
  go_simp

theorem ino_guard (op : BinOp) (x y : Operand) (cs ds : Array Value) (w : World) : (eqGuard op 78 x y (.agg cs) (.agg ds)).run Try.prog w = .ok () w := run_eqGuard_agg w op 78 x y _ _ (by kernel_rfl)

theorem yieldsIf_ino {ops : Array Oper} {S : World → Prop} {o : Oper} {a : Act} (i : Ino) (hi : i.fine) (hw : Region.wanted o (yielded ops a.tmps) = true) (x y : Operand) (ty : TypeId) (ho : o.op = .binOp .neq 78 x y ty) (hx : a.eval x = .agg i.cells.toArray) (hy : a.eval y = .agg i.cells.toArray) : YieldsIf Try.prog ops S o (.bool false) a :=
  .inl ⟨hw, fun w _ => by simp only [execOp, ho, hx, hy, Sem.run_bind, ino_guard, ino_neq i hi, Result.andThen_ok, Sem.run_pure]⟩

set_option maxRecDepth 100000 in
set_option maxHeartbeats 2000000 in
theorem sameInos_any (A1 A2 : Option Addr) (n c1 c2 B1 B2 : Nat) (xs : List Ino) (w : World) (h1 : Inos w B1 A1 n xs) (h2 : Inos w B2 A2 n xs) (hB1 : B1 ≤ w.heap.size) (hB2 : B2 ≤ w.heap.size) (hn : n ≤ 10000000000000) :
    Calls Try.prog 43 #[.slice A1 n c1, .slice A2 n c2] w fun e w' => e = .returned (.bool true) ∧ Below w.heap.size w w' := by
  have h1' := hid (h1.more hB1)
  have h2' := hid (h2.more hB2)
  have hlen := h1.1
  clear h1 h2
  go_enter Try.func43, Try.ntmps43
  go_wp2_with fail
  go_loopw [5] (fun i wr => ∃ k : Nat, k ≤ n ∧ i = .int .i64 (k : Int) ∧ Below w.heap.size w wr) (fun i _ => n - (intOf i).toNat)
  case atStart => exact ⟨0, Nat.zero_le _, rfl, Below.refl _ _⟩
  case round =>
    obtain ⟨k, hk, rfl, hBr⟩ := hrel
    by_cases hlt : k < n
    · obtain ⟨p, a, hpA, hpB, ha, hfa, hca⟩ := (h1'.out.below hBr.drew).get (k := k) hlt
      obtain ⟨q, a', hqA, hqB, ha', _, hcb⟩ := (h2'.out.below hBr.drew).get (k := k) hlt
      rw [ha] at ha'
      obtain rfl := Option.some.inj ha'
      subst hpA
      subst hqA
      have hlt' : (k : Int) < (n : Int) := by omega
      have hi1 : (Try.prog.info? 78).map (·.size) = some a.cells.length := by rw [Ino.len hfa]; exact Try.infoIno
      have hBr' := hid hBr
      have hb1 := hid (hBr.drew)
      clear ha ha' hBr
      have hk1 : (k : Int) < n := hlt'
      go_wp2_with fail
      refine wp_region_held_drew (S := fun W => (∀ j v, a.cells[j]? = some v → W.cell? ((p.add (k * 37)).add j) = some v) ∧ ∀ j v, a.cells[j]? = some v → W.cell? ((q.add (k * 37)).add j) = some v) (by kernel_rfl) (by exact ⟨hca, hcb⟩) (fun hHeld => ?_)
      refine wpAnyH_take (i := 0) (v := .slice (some p) n c1) rfl (by kernel_rfl) (by kernel_rfl) (by kernel_rfl) (fun _ _ _ h => h) (yieldsIf_move _ rfl rfl rfl) hHeld ?_
      simp only [ly1, ly2, ly3, Act.put, ly5, ly6, ly7]
      refine wpAnyH_take (i := 1) (v := .int .i64 (k : Int)) rfl (by kernel_rfl) (by kernel_rfl) (by kernel_rfl) (fun _ _ _ h => h) (yieldsIf_move _ rfl rfl rfl) hHeld ?_
      simp only [ly1, ly2, ly3, Act.put, ly5, ly6, ly7]
      refine wpAnyH_take (i := 4) (v := .slice (some q) n c2) rfl (by kernel_rfl) (by kernel_rfl) (by kernel_rfl) (fun _ _ _ h => h) (yieldsIf_move _ rfl rfl rfl) hHeld ?_
      simp only [ly1, ly2, ly3, Act.put, ly5, ly6, ly7]
      refine wpAnyH_take (i := 5) (v := .int .i64 (k : Int)) rfl (by kernel_rfl) (by kernel_rfl) (by kernel_rfl) (fun _ _ _ h => h) (yieldsIf_move _ rfl rfl rfl) hHeld ?_
      simp only [ly1, ly2, ly3, Act.put, ly5, ly6, ly7]
      refine wpAnyH_take (i := 2) (v := .pointer (some (p.add (k * 37)))) rfl (by kernel_rfl) (by kernel_rfl) (by kernel_rfl) (fun _ _ _ h => h) (.inl ⟨by kernel_rfl, fun w _ => by go_simp⟩) hHeld ?_
      simp only [ly1, ly2, ly3, Act.put, ly5, ly6, ly7]
      refine wpAnyH_take (i := 3) (v := .agg a.cells.toArray) rfl (by kernel_rfl) (by kernel_rfl) (by kernel_rfl) (fun _ _ _ h => h) (yieldsIf_load_any (by kernel_rfl) _ _ rfl _ rfl _ _ (fun w hw => hw.1) Try.underlying78 rfl hi1) hHeld ?_
      simp only [ly1, ly2, ly3, Act.put, ly5, ly6, ly7]
      refine wpAnyH_take (i := 6) (v := .pointer (some (q.add (k * 37)))) rfl (by kernel_rfl) (by kernel_rfl) (by kernel_rfl) (fun _ _ _ h => h) (.inl ⟨by kernel_rfl, fun w _ => by go_simp⟩) hHeld ?_
      simp only [ly1, ly2, ly3, Act.put, ly5, ly6, ly7]
      refine wpAnyH_take (i := 7) (v := .agg a.cells.toArray) rfl (by kernel_rfl) (by kernel_rfl) (by kernel_rfl) (fun _ _ _ h => h) (yieldsIf_load_any (by kernel_rfl) _ _ rfl _ rfl _ _ (fun w hw => hw.2) Try.underlying78 rfl hi1) hHeld ?_
      simp only [ly1, ly2, ly3, Act.put, ly5, ly6, ly7]
      refine wpAnyH_take (i := 8) (v := .bool false) rfl (by kernel_rfl) (by kernel_rfl) (by kernel_rfl) (fun _ _ _ h => h) (yieldsIf_ino a hfa (by kernel_rfl) _ _ _ rfl rfl rfl) hHeld ?_
      simp only [ly1, ly2, ly3, Act.put, ly5, ly6, ly7]
      refine wpAnyH_done (by kernel_rfl) ?_ _
      go_wp2_with fail
      go_roundw
      case rel => exact ⟨k + 1, by omega, by go_num, hb1.out⟩
      case measure => simp [intOf]; omega
    · have hlt' : ¬ (k : Int) < (n : Int) := by omega
      have hBr' := hid hBr
      clear hBr
      go_wp2_with fail
      go_ret
      exact ⟨rfl, hBr'.out⟩

end Go.Proofs.Ytapegklffglnoaa
