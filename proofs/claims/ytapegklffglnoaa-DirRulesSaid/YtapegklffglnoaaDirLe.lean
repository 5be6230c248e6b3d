/- Layer 13: directories that are lent with marked room behind them.
   Layer 13: the statements' SameDirents, of like entries.
   Layer 13: KeptDirents.
   Layer 13: SpoilDirents: writes into rows of one's own and nowhere else. -/
import Derived.Test.YtapegklffglnoaaDirRf
import Derived.Test.YtapegklffglnoaaLoadOn
import Derived.Stop.BytesEq
namespace Go.Proofs.Ytapegklffglnoaa
open Go.RowKit
open Go.Lib (strCells strCells_length strCells_oneCell)

/-- A []Dirent handed in. -/
def EntsIn (w : World) (A : Option Addr) (n c : Nat) (xs : List Ent) : Prop := Ents w w.heap.size A n xs ∧ n ≤ c ∧ n * 32 ≤ 140737488351232 ∧ (A = none → c = 0)

/-- A row of two entries. -/
theorem ents_pair {w : World} {q : Nat} {a b : Ent} (ha : a.fine) (hb : b.fine) (h : Holds w q 60 (a.cells ++ b.cells)) : Ents w (q + 1) (some ⟨q, 0, none⟩) 2 [a, b] := by
  have hf : ∀ x ∈ [a, b], x.fine := fun x hx => by
    rcases List.mem_cons.1 hx with rfl | hx
    · exact ha
    · rw [List.mem_singleton.1 hx]; exact hb
  refine ⟨rfl, hf, .inr ⟨_, rfl, Nat.lt_succ_self _, fun i hi j v hv => ?_⟩⟩
  have h1 := entCells_at hf i hi j v hv
  rw [show entCells [a, b] = a.cells ++ b.cells from by simp [entCells]] at h1
  rw [add_add, show (⟨q, 0, none⟩ : Addr).add (i * 3 + j) = ⟨q, i * 3 + j, none⟩ from by unfold Addr.add; split <;> simp_all, h.cell]
  exact h1

/-- What lies in the room behind. -/
def roomEnt : Ent := ⟨⟨#[55, 55, 55, 55, 55]⟩, 0, 0⟩
def roomEnts : List Ent := [roomEnt, roomEnt]
theorem room_fine : roomEnt.fine := by show roomEnt.name.size ≤ 140737488351232; decide +kernel
theorem rooms_fine : ∀ x ∈ roomEnts, x.fine := fun x hx => by
  unfold roomEnts at hx
  simp at hx
  rw [hx]
  exact room_fine

set_option maxHeartbeats 400000 in
theorem CopyEnts_any {w : World} (A : Option Addr) (n c : Nat) (xs : List Ent) (h : EntsIn w A n c xs) :
    Calls Try.prog 51 #[.slice A n c] w fun e w' => ∃ A' c', e = .returned (.slice A' n c') ∧ w'.ownsRow w.heap.size 60 3 (.slice A' n c') n (entCells xs) ∧ Below w.heap.size w w' := by
  obtain ⟨hx, hn, hc, hnil⟩ := h
  have hat := hx.at_cells
  obtain ⟨i0, hi, hz0, hz1, hz2⟩ := info_parts Try.infoEntI
  have hl : (w.alloc (.cells #[] 60)).ownsRow w.heap.size 60 3 (.slice (some ⟨w.heap.size, 0, none⟩) 0 0) 0 [] := ⟨rfl, .inr ⟨w.heap.size, 0, #[], rfl, Nat.le_refl _, Holds.new w _ _, Nat.le_refl _, Nat.zero_le _, rfl, rfl⟩⟩
  have hl' := hid hl
  clear hl
  go_enter Try.func51, Try.ntmps51
  go_wp2_with (at_builtin; refine wpList_appends rfl (.tmp 3) (.tmp 4) 36 60 rfl w.heap.size i0 _ 3 32 Try.underlying36 hi hz0 hz1 hz2 (by decide) (by decide) (some ⟨w.heap.size, 0, none⟩) 0 0 [] w.heap.size A n c (entCells xs) rfl rfl hnil (entCells_each _) (by omega) (by omega) (by exact hl'.out) (by exact At.alloc hat (Nat.le_refl _) _) (by first | (simp; done) | (simp; omega) | omega) ?_; intro A6 c6 w1 hown1 hb1 hg1)
  go_ret
  rw [Nat.zero_add, List.nil_append] at hown1
  exact ⟨_, _, rfl, hown1, ((Below.refl _ _).alloc (Nat.le_refl _) _).trans hb1⟩

set_option maxRecDepth 100000 in
set_option maxHeartbeats 1000000 in
theorem LendEnts_any {w : World} (A : Option Addr) (n c : Nat) (xs : List Ent) (h : EntsIn w A n c xs) :
    Calls Try.prog 21 #[.slice A n c] w fun e w' => ∃ A' c', e = .returned (.slice A' n c') ∧ n + 2 ≤ c' ∧ Ents w' w'.heap.size A' (n + 2) (xs ++ roomEnts) ∧ Below w.heap.size w w' := by
  have h0 := h
  obtain ⟨hx, hn, hc, hnil⟩ := h
  obtain ⟨i0, hi, hz0, hz1, hz2⟩ := info_parts Try.infoEntI
  have hlen := hx.1
  have hall' := hid (show ∀ x ∈ xs ++ roomEnts, x.fine from fun x hm => by
    rcases List.mem_append.1 hm with hm | hm
    · exact hx.2.1 x hm
    · exact rooms_fine x hm)
  go_enter Try.func21, Try.ntmps21
  go_wp2_with fail
  refine (CopyEnts_any A n c xs h0).mono ?_
  rintro e w1 ⟨A1, c1, rfl, hown, hb⟩
  have hsz := hb.size
  go_wp2_with (first
    | ((with_reducible refine at_slot (some 6) ?_); refine wpList_run rfl (.agg roomEnt.cells.toArray) w1 (by kernel_rfl) ?_)
    | ((with_reducible refine at_slot (some 7) ?_); refine wpList_run rfl (.agg roomEnt.cells.toArray) w1 (by kernel_rfl) ?_)
    | ((with_reducible refine at_slot (some 8) ?_); refine wpList_run rfl (.slice (some ⟨w1.heap.size, 0, none⟩) 2 2) (w1.alloc (.cells (entCells roomEnts).toArray 60)) (by kernel_rfl) ?_)
    | (at_builtin; refine wpList_appends rfl (.tmp 5) (.tmp 8) 36 60 rfl w.heap.size i0 _ 3 32 Try.underlying36 hi hz0 hz1 hz2 (by decide) (by decide) A1 n c1 (entCells xs) (w1.heap.size + 1) (some ⟨w1.heap.size, 0, none⟩) 2 2 (entCells roomEnts) rfl rfl (fun h => by cases h) (entCells_each _) (by omega) (by omega) (by exact hown.alloc _) (by exact (ents_pair room_fine room_fine (Holds.new w1 60 (entCells roomEnts).toArray)).at_cells) (by first | (simp; done) | (simp; omega) | omega) ?_; intro A6 c6 w2 hown2 hb2 hg2; have hc6 := own_cap hown2)
    | fail)
  go_ret
  have hown3 : w2.ownsRow w.heap.size 60 3 (.slice A6 (xs ++ roomEnts).length c6) (xs ++ roomEnts).length (entCells (xs ++ roomEnts)) := by
    rw [entCells_append, List.length_append, hlen]
    exact hown2
  have hI := ents_of_own hall'.out hown3
  rw [List.length_append, hlen] at hI
  exact ⟨_, _, rfl, own_cap hown2, hI, (hb.alloc hsz _).trans hb2⟩

end Go.Proofs.Ytapegklffglnoaa
namespace Go.Proofs.Ytapegklffglnoaa
open Go.RowKit
open Go.Lib (strCells strCells_length strCells_oneCell)

set_option maxRecDepth 100000 in
set_option maxHeartbeats 2000000 in
theorem ent_neq (x : Ent) (w : World) : (binOp .neq 60 (.agg x.cells.toArray) (.agg x.cells.toArray)).run Try.prog w = .ok (.bool false) w := by
  have hS : Try.prog.underlying 60 = some (.struct (Try.prog.fieldsOf 60)) := by kernel_rfl
  have hp : Try.prog.stoodInHeld 60 = false := by kernel_rfl
  have hS2 : Try.prog.underlying 38 = some (.struct (Try.prog.fieldsOf 38)) := by kernel_rfl
  have hp2 : Try.prog.stoodInHeld 38 = false := by kernel_rfl
  have hi : ∀ (a : Int) (w : World), (Op.equalIn 9998 3 (.int .i64 a) (.int .i64 a)).run Try.prog w = .ok true w := fun a w => by
    have h := run_equalIn_int (P := Try.prog) w 9997 3 .i64 .i64 a a Try.underlying3
    rw [beq_self_eq_true] at h
    exact h
  have hs : ∀ (a : ByteArray) (w : World), (Op.equalIn 9999 9 (.string a) (.string a)).run Try.prog w = .ok true w := fun a w => by
    have h := run_equalIn_string (P := Try.prog) w 9998 9 a a Try.underlying9
    rw [beq_self_eq_true] at h
    exact h
  have hr : ∀ (a b : Int) (w : World), (Op.equalIn 9999 38 (.agg #[.int .i64 a, .int .i64 b]) (.agg #[.int .i64 a, .int .i64 b])).run Try.prog w = .ok true w := fun a b w => by
    rw [show (9999 : Nat) = 9998 + 1 from rfl, run_equalIn_struct w 9998 _ _ _ hS2 hp2]
    simp only [Program.fieldsOf, Try.underlying38]
    go_simp
  rw [run_neq_struct, show (10000 : Nat) = 9999 + 1 from rfl, run_equalIn_struct w 9999 _ _ _ hS hp]
  simp only [Program.fieldsOf, Try.underlying60]
  unfold Ent.cells
  go_simp

theorem ent_guard (op : BinOp) (x y : Operand) (cs ds : Array Value) (w : World) : (eqGuard op 60 x y (.agg cs) (.agg ds)).run Try.prog w = .ok () w := run_eqGuard_agg w op 60 x y _ _ (by kernel_rfl)

theorem yieldsIf_ent {ops : Array Oper} {S : World → Prop} {o : Oper} {a : Act} (i : Ent) (hw : Region.wanted o (yielded ops a.tmps) = true) (x y : Operand) (ty : TypeId) (ho : o.op = .binOp .neq 60 x y ty) (hx : a.eval x = .agg i.cells.toArray) (hy : a.eval y = .agg i.cells.toArray) : YieldsIf Try.prog ops S o (.bool false) a :=
  .inl ⟨hw, fun w _ => by simp only [execOp, ho, hx, hy, Sem.run_bind, ent_guard, ent_neq i, Result.andThen_ok, Sem.run_pure]⟩

set_option maxRecDepth 100000 in
set_option maxHeartbeats 2000000 in
theorem sameEnts_any (A1 A2 : Option Addr) (n c1 c2 B1 B2 : Nat) (xs : List Ent) (w : World) (h1 : Ents w B1 A1 n xs) (h2 : Ents w B2 A2 n xs) (hB1 : B1 ≤ w.heap.size) (hB2 : B2 ≤ w.heap.size) (hn : n ≤ 10000000000000) :
    Calls Try.prog 32 #[.slice A1 n c1, .slice A2 n c2] w fun e w' => e = .returned (.bool true) ∧ Below w.heap.size w w' := by
  have h1' := hid (h1.more hB1)
  have h2' := hid (h2.more hB2)
  have hlen := h1.1
  clear h1 h2
  go_enter Try.func32, Try.ntmps32
  go_wp2_with fail
  go_loopw [5] (fun i wr => ∃ k : Nat, k ≤ n ∧ i = .int .i64 (k : Int) ∧ Below w.heap.size w wr) (fun i _ => n - (intOf i).toNat)
  case atStart => exact ⟨0, Nat.zero_le _, rfl, Below.refl _ _⟩
  case round =>
    obtain ⟨k, hk, rfl, hBr⟩ := hrel
    by_cases hlt : k < n
    · obtain ⟨p, a, hpA, hpB, ha, hfa, hca⟩ := (h1'.out.below hBr.drew).get (k := k) hlt
      obtain ⟨q, a', hqA, hqB, ha', _, hcb⟩ := (h2'.out.below hBr.drew).get (k := k) hlt
      rw [ha] at ha'
      obtain rfl := Option.some.inj ha'
      subst hpA
      subst hqA
      have hlt' : (k : Int) < (n : Int) := by omega
      have hi1 : (Try.prog.info? 60).map (·.size) = some a.cells.length := by rw [Ent.len]; exact Try.infoEnt
      have hBr' := hid hBr
      have hb1 := hid (hBr.drew)
      clear ha ha' hBr
      have hk1 : (k : Int) < n := hlt'
      go_wp2_with fail
      refine wp_region_held_drew (S := fun W => (∀ j v, a.cells[j]? = some v → W.cell? ((p.add (k * 3)).add j) = some v) ∧ ∀ j v, a.cells[j]? = some v → W.cell? ((q.add (k * 3)).add j) = some v) (by kernel_rfl) (by exact ⟨hca, hcb⟩) (fun hHeld => ?_)
      refine wpAnyH_take (i := 0) (v := .slice (some p) n c1) rfl (by kernel_rfl) (by kernel_rfl) (by kernel_rfl) (fun _ _ _ h => h) (yieldsIf_move _ rfl rfl rfl) hHeld ?_
      simp only [ly1, ly2, ly3, Act.put, ly5, ly6, ly7]
      refine wpAnyH_take (i := 1) (v := .int .i64 (k : Int)) rfl (by kernel_rfl) (by kernel_rfl) (by kernel_rfl) (fun _ _ _ h => h) (yieldsIf_move _ rfl rfl rfl) hHeld ?_
      simp only [ly1, ly2, ly3, Act.put, ly5, ly6, ly7]
      refine wpAnyH_take (i := 4) (v := .slice (some q) n c2) rfl (by kernel_rfl) (by kernel_rfl) (by kernel_rfl) (fun _ _ _ h => h) (yieldsIf_move _ rfl rfl rfl) hHeld ?_
      simp only [ly1, ly2, ly3, Act.put, ly5, ly6, ly7]
      refine wpAnyH_take (i := 5) (v := .int .i64 (k : Int)) rfl (by kernel_rfl) (by kernel_rfl) (by kernel_rfl) (fun _ _ _ h => h) (yieldsIf_move _ rfl rfl rfl) hHeld ?_
      simp only [ly1, ly2, ly3, Act.put, ly5, ly6, ly7]
      refine wpAnyH_take (i := 2) (v := .pointer (some (p.add (k * 3)))) rfl (by kernel_rfl) (by kernel_rfl) (by kernel_rfl) (fun _ _ _ h => h) (.inl ⟨by kernel_rfl, fun w _ => by go_simp⟩) hHeld ?_
      simp only [ly1, ly2, ly3, Act.put, ly5, ly6, ly7]
      refine wpAnyH_take (i := 3) (v := .agg a.cells.toArray) rfl (by kernel_rfl) (by kernel_rfl) (by kernel_rfl) (fun _ _ _ h => h) (yieldsIf_load_any (by kernel_rfl) _ _ rfl _ rfl _ _ (fun w hw => hw.1) Try.underlying60 rfl hi1) hHeld ?_
      simp only [ly1, ly2, ly3, Act.put, ly5, ly6, ly7]
      refine wpAnyH_take (i := 6) (v := .pointer (some (q.add (k * 3)))) rfl (by kernel_rfl) (by kernel_rfl) (by kernel_rfl) (fun _ _ _ h => h) (.inl ⟨by kernel_rfl, fun w _ => by go_simp⟩) hHeld ?_
      simp only [ly1, ly2, ly3, Act.put, ly5, ly6, ly7]
      refine wpAnyH_take (i := 7) (v := .agg a.cells.toArray) rfl (by kernel_rfl) (by kernel_rfl) (by kernel_rfl) (fun _ _ _ h => h) (yieldsIf_load_any (by kernel_rfl) _ _ rfl _ rfl _ _ (fun w hw => hw.2) Try.underlying60 rfl hi1) hHeld ?_
      simp only [ly1, ly2, ly3, Act.put, ly5, ly6, ly7]
      refine wpAnyH_take (i := 8) (v := .bool false) rfl (by kernel_rfl) (by kernel_rfl) (by kernel_rfl) (fun _ _ _ h => h) (yieldsIf_ent a (by kernel_rfl) _ _ _ rfl rfl rfl) hHeld ?_
      simp only [ly1, ly2, ly3, Act.put, ly5, ly6, ly7]
      refine wpAnyH_done (by kernel_rfl) ?_ _
      go_wp2_with fail
      go_roundw
      case rel => exact ⟨k + 1, by omega, by go_num, hb1.out⟩
      case measure => simp [intOf]; omega
    · have hlt' : ¬ (k : Int) < (n : Int) := by omega
      have hBr' := hid hBr
      clear hBr
      go_wp2_with fail
      go_ret
      exact ⟨rfl, hBr'.out⟩

end Go.Proofs.Ytapegklffglnoaa
namespace Go.Proofs.Ytapegklffglnoaa
open Go.RowKit

theorem ent_eql (x : Ent) (w : World) : (binOp .eql 60 (.agg x.cells.toArray) (.agg x.cells.toArray)).run Try.prog w = .ok (.bool true) w := by
  have h := ent_neq x w
  rw [run_neq_struct] at h
  rw [run_eql_struct]
  cases hq : (Op.equalIn 10000 60 (.agg x.cells.toArray) (.agg x.cells.toArray)).run Try.prog w with
  | ok b w' =>
    rw [hq] at h
    simp only [Result.andThen_ok, Result.ok.injEq, Value.bool.injEq] at h ⊢
    refine ⟨?_, h.2⟩
    cases b
    · exact absurd h.1 (by decide)
    · rfl
  | halt e w' =>
    rw [hq] at h
    cases h

theorem wpList_ent_on {ops : Array Oper} {rest : List Oper} {o : Oper} {a : Act} {w : World} {Q : Exit → Act → World → Prop} (hw : Region.wanted o (yielded ops a.tmps) = true) (x y : Operand) (ty : TypeId) (ho : o.op = .binOp .eql 60 x y ty) (i : Ent) (hx : a.eval x = .agg i.cells.toArray) (hy : a.eval y = .agg i.cells.toArray)
    (h : wpList Try.prog ops Q rest (a.put o.dst (.bool true)) w) : wpList Try.prog ops Q (o :: rest) a w := by
  refine wpList_run_on hw (.bool true) w ?_ h
  simp only [execOp, ho, hx, hy, Sem.run_bind, ent_guard, ent_eql i, Result.andThen_ok, Sem.run_pure]

theorem Ents.front {w : World} {B n m : Nat} {A : Option Addr} {xs ys : List Ent} (h : Ents w B A m (xs ++ ys)) (hn : xs.length = n) : Ents w B A n xs := by
  refine ⟨hn, fun x hx => h.2.1 x (List.mem_append_left _ hx), ?_⟩
  rcases h.2.2 with h0 | ⟨p, hA, hB, hc⟩
  · have := h.1
    rw [List.length_append] at this
    exact .inl (by omega)
  · refine .inr ⟨p, hA, hB, fun i hi j v hv => ?_⟩
    have h1 : i < (xs ++ ys).length := by rw [List.length_append]; omega
    have h2 := hc i h1 j v (by rw [List.getElem_append_left hi]; exact hv)
    exact h2

set_option maxRecDepth 100000 in
set_option maxHeartbeats 2000000 in
theorem KeptEnts_any {w : World} (A : Option Addr) (n c : Nat) (xs : List Ent) (A' : Option Addr) (c' : Nat) (B B' : Nat) (hx : Ents w B' A' n xs) (hn : n ≤ 9000000000000) (hc : n + 2 ≤ c) (h : Ents w B A (n + 2) (xs ++ roomEnts)) (hB : B ≤ w.heap.size) (hB' : B' ≤ w.heap.size) :
    Calls Try.prog 36 #[.slice A n c, .slice A' n c'] w fun e w' => e = .returned (.bool true) ∧ Below w.heap.size w w' := by
  have hl := hx.1
  have hh := hid (h.more hB)
  obtain ⟨p, rfl⟩ : ∃ p, A = some p := by
    rcases h.at_ with h0 | h0
    · omega
    · exact h0
  have a1 : (xs ++ roomEnts)[n]? = some roomEnt := by rw [List.getElem?_append_right (by omega), hl, Nat.sub_self]; rfl
  have a2 : (xs ++ roomEnts)[n + 1]? = some roomEnt := by rw [List.getElem?_append_right (by omega), hl, Nat.add_sub_cancel_left]; rfl
  have c1 := hid (sameEnts_any (some p) A' n c c' B B' xs w (h.front hl) hx hB hB' (by omega))
  have hi1 : (Try.prog.info? 60).map (·.size) = some roomEnt.cells.length := by rw [Ent.len]; exact Try.infoEnt
  have a1' := hid a1
  have a2' := hid a2
  clear hx h a1 a2
  go_enter Try.func36, Try.ntmps36
  go_wp2_with fail
  refine c1.out.mono ?_
  rintro e W ⟨rfl, hb⟩
  have r1 := hid ((hh.out.below hb).cells_at a1'.out)
  have r2 := hid ((hh.out.below hb).cells_at a2'.out)
  have hb' := hid hb
  clear hb c1
  have n1 : (n : Int) + 1 < (n : Int) + 2 := by omega
  have n2 : (0 : Int) ≤ (n : Int) + 1 := by omega
  have n3 : ((n : Int) + 1).toNat = n + 1 := by omega
  have n4 : (n : Int) < (n : Int) + 2 := by omega
  have n5 := IntWalk.i64_in ((n : Int) + 1) (by omega)
  go_wp2_with (first
    | ((with_reducible refine at_slot (some 19) ?_); refine wpList_load_any_on (by kernel_rfl) 60 (.tmp 18) rfl (p.add (n * 3)) rfl roomEnt.cells _ (by exact r1.out) Try.underlying60 rfl (by exact hi1) ?_)
    | ((with_reducible refine at_slot (some 20) ?_); refine wpList_run_on (by kernel_rfl) (.agg roomEnt.cells.toArray) W (by kernel_rfl) ?_)
    | ((with_reducible refine at_slot (some 21) ?_); refine wpList_ent_on (by kernel_rfl) (.tmp 19) (.tmp 20) _ rfl roomEnt rfl rfl ?_)
    | ((with_reducible refine at_slot (some 29) ?_); refine wpList_load_any_on (by kernel_rfl) 60 (.tmp 28) rfl (p.add ((n + 1) * 3)) rfl roomEnt.cells _ (by exact r2.out) Try.underlying60 rfl (by exact hi1) ?_)
    | ((with_reducible refine at_slot (some 30) ?_); refine wpList_run_on (by kernel_rfl) (.agg roomEnt.cells.toArray) W (by kernel_rfl) ?_)
    | ((with_reducible refine at_slot (some 31) ?_); refine wpList_ent_on (by kernel_rfl) (.tmp 29) (.tmp 30) _ rfl roomEnt rfl rfl ?_)
    | fail)
  go_ret
  exact ⟨rfl, hb'.out⟩

end Go.Proofs.Ytapegklffglnoaa
namespace Go.Proofs.Ytapegklffglnoaa
open Go.RowKit

theorem entCells_at0 : ∀ (xs : List Ent) (j : Nat) (hj : j < xs.length), (entCells xs)[j * 3]? = some (.string xs[j].name)
  | _ :: _, 0, _ => rfl
  | x :: xs, j + 1, hj => by
    have h := entCells_at0 xs j (Nat.lt_of_succ_lt_succ hj)
    have e : entCells (x :: xs) = .string x.name :: .int .i64 x.owner :: .int .i64 x.num :: entCells xs := rfl
    rw [e, show (j + 1) * 3 = j * 3 + 1 + 1 + 1 from by omega, List.getElem?_cons_succ, List.getElem?_cons_succ, List.getElem?_cons_succ, h]
    rfl

theorem cat_bang (a : ByteArray) (h : a.size ≤ 140737488351232) (w : World) : (binOp .add 9 (.string a) (.string ⟨#[33]⟩)).run Try.prog w = .ok (.string (a ++ ⟨#[33]⟩)) w := by
  show (Op.stringOp .add a ⟨#[33]⟩).run Try.prog w = _
  rw [run_string_add_if, if_neg]
  show ¬ a.size + 1 > 9223372036854775807
  omega

set_option maxRecDepth 100000 in
set_option maxHeartbeats 2000000 in
theorem spoilEnts_any {w : World} {A : Option Addr} {n c n0 : Nat} {xs : List Ent} (h : w.ownsRow n0 60 3 (.slice A n c) n (entCells xs)) (hf : ∀ x ∈ xs, x.fine) (hl : xs.length = n) (hn : n ≤ 9000000000000) :
    Calls Try.prog 35 #[.slice A n c] w fun e w' => e = .returned (.tuple #[]) ∧ Below n0 w w' ∧ ∀ k, (Value.slice A n c).ownBlock ≠ some k → w'.heap[k]? = w.heap[k]? := by
  have hfin : n = 0 ∨ ∃ g cur, A = some ⟨g, 0, none⟩ ∧ n0 ≤ g ∧ Holds w g 60 cur ∧ n * 3 ≤ cur.length ∧ ∀ j (hj : j < xs.length), cur[j * 3]? = some (.string xs[j].name) := by
    obtain ⟨hlen, h0 | ⟨g, cap, cur, hv, hg, hh, h1, _, h3, h4⟩⟩ := h
    · exact .inl h0.2
    · obtain ⟨rfl, -, rfl⟩ : A = some ⟨g, 0, none⟩ ∧ n = n ∧ c = cap := by cases hv; exact ⟨rfl, rfl, rfl⟩
      refine .inr ⟨g, cur.toList, rfl, hg, (by unfold Holds; exact hh), ?_, fun j hj => ?_⟩
      · rw [Array.length_toList, h3]
        exact Nat.mul_le_mul_right 3 h1
      · have h5 : (entCells xs)[j * 3]? = some (.string xs[j].name) := entCells_at0 xs j hj
        rw [← h4, List.getElem?_take_of_lt (by omega)] at h5
        exact h5
  clear h
  rcases hfin with rfl | ⟨g, cur, rfl, hg, hh, hc, hx⟩
  · go_enter Try.func35, Try.ntmps35
    go_wp2_with fail
    go_loopw [2] (fun i wr => i = .int .i64 0 ∧ wr = w) (fun i _ => 0)
    case atStart => exact ⟨rfl, rfl⟩
    case round =>
      obtain ⟨rfl, rfl⟩ := hrel
      go_wp2_with fail
      go_end0
      exact ⟨rfl, Below.refl _ _, fun _ _ => rfl⟩
  · have hh' := hid hh
    have hx' := hid hx
    clear hh hx
    go_enter Try.func35, Try.ntmps35
    go_wp2_with fail
    go_loopw [2] (fun i wr => ∃ (k : Nat) (cur' : List Value), k ≤ n ∧ i = .int .i64 (k : Int) ∧ Holds wr g 60 cur' ∧ cur'.length = cur.length ∧ (∀ j (hj : j < xs.length), k ≤ j → cur'[j * 3]? = some (.string xs[j].name)) ∧ Below n0 w wr ∧ ∀ k, k ≠ g → wr.heap[k]? = w.heap[k]?) (fun i _ => n - (intOf i).toNat)
    case atStart => exact ⟨0, cur, Nat.zero_le _, rfl, hh'.out, rfl, fun j hj _ => hx'.out j hj, Below.refl _ _, fun _ _ => rfl⟩
    case round =>
      obtain ⟨k, cur', hk, rfl, hr, hlr, hxr, hbr, hgr⟩ := hrel
      have hgr' := hid hgr
      clear hgr
      have hr' := hid hr
      have hxr' := hid hxr
      have hbr' := hid hbr
      clear hr hxr hbr
      by_cases hlt : k < n
      · have hlt' : (k : Int) < (n : Int) := by omega
        have hcl : k * 3 < cur'.length := by omega
        have a1 := hr'.out.cell (i := k * 3)
        rw [hxr'.out k (by omega) (Nat.le_refl _)] at a1
        have a2 := hr'.out.frozen (k * 3)
        have hsz := hf _ (List.getElem_mem (show k < xs.length from by omega))
        unfold Ent.fine at hsz
        have hct : ¬ (xs[k].name.size + 1 > 9223372036854775807) := by omega
        go_wp2_with (first
          | ((with_reducible refine at_slot (some 16) ?_); refine wpList_run rfl (.string (xs[k].name ++ ⟨#[33]⟩)) wr (by exact cat_bang _ hsz wr) ?_)
          | fail)
        go_roundw
        case rel => exact ⟨k + 1, _, by omega, by go_num, hr'.out.set (k * 3) _, (by rw [List.length_set]; exact hlr), fun j hj hkj => by rw [List.getElem?_set_ne (by omega)]; exact hxr'.out j hj (by omega), hbr'.out.setCell hg _, fun q hq => (Below.heap_setCell _ _ _ _ hq).trans (hgr'.out q hq)⟩
        case measure => simp [intOf]; omega
      · have hlt' : ¬ (k : Int) < (n : Int) := by omega
        go_wp2_with fail
        go_end0
        exact ⟨rfl, hbr'.out, fun q hq => hgr'.out q (fun e => hq (by rw [e]; rfl))⟩

end Go.Proofs.Ytapegklffglnoaa
