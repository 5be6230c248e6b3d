/- Lists of hashes that are lent with marked room behind them (folder almonrylaw0). -/
import Derived.Test.YtenfhmpjhbpkpaaPfA
import Derived.Test.YtenfhmpjhbpkpaaHashs
import Derived.Test.YtenfhmpjhbpkpaaMlogB
namespace Go.Proofs.Ytenfhmpjhbpkpaa
open Go.RowKit
open Go.Lib (strCells strCells_length strCells_oneCell)
attribute [local irreducible] Sha.compress Sha.blocks Sha.sha Sha.pad

/-- What lies in the room behind. -/
def roomH : List UInt8 := 77 :: List.replicate 31 0
def roomHs : List (List UInt8) := [roomH, roomH]

section
variable {P : Program} {ops : Array Oper} {rest : List Oper} {o : Oper} {a : Act} {w : World} {Q : Exit → Act → World → Prop}
theorem wpList_run_on (hw : Region.wanted o (yielded ops a.tmps) = true) (v : Value) (w' : World) (hrun : (execOp a.eval o).run P w = .ok (.value v) w') (h : wpList P ops Q rest (a.put o.dst v) w') : wpList P ops Q (o :: rest) a w :=
  wpList_step fun _ hK => by
    rw [if_pos hw]
    exact wp_run v w' hrun (hK _ _ h)

theorem wpList_load_far_on (hw : Region.wanted o (yielded ops a.tmps) = true) (ty : TypeId) (x : Operand) (ho : o.op = .load ty x) (p : Addr) (hx : a.eval x = .pointer (some p)) (cs : List Value) (d : TypeDesc) (hc : CellsAt w p cs)
    (hu : P.underlying ty = some d) (hd : d.isRow = true) (hi : (P.info? ty).map (·.size) = some cs.length) (h : wpList P ops Q rest (a.put o.dst (.agg cs.toArray)) w) : wpList P ops Q (o :: rest) a w :=
  wpList_run_on hw _ _ (by
    unfold execOp
    simp only [ho, hx, Instr.loadAt, Instr.sureAddr, Sem.run_bind, Sem.run_pure, Result.andThen_ok, run_load_far p ty cs d hc hu hd hi]) h
end

section
variable {ops : Array Oper} {rest : List Oper} {o : Oper} {a : Act} {w : World} {Q : Exit → Act → World → Prop} {S : World → Prop}
theorem wpList_heql_on (hw : Region.wanted o (yielded ops a.tmps) = true) (x y : Operand) (ty : TypeId) (ho : o.op = .binOp .eql 28 x y ty) (C : List UInt8) (hC : C.length = 32) (hx : a.eval x = .agg (byteCells C).toArray) (hy : a.eval y = .agg (byteCells C).toArray)
    (h : wpList Try.prog ops Q rest (a.put o.dst (.bool true)) w) : wpList Try.prog ops Q (o :: rest) a w := by
  refine wpList_run_on hw (.bool true) w ?_ h
  have hc := hash_cells C hC
  simp [execOp, ho, hx, hy, hc.guard, hc.eql]

theorem yieldsIf_hsame (hw : Region.wanted o (yielded ops a.tmps) = true) (x y : Operand) (ty : TypeId) (ho : o.op = .binOp .neq 28 x y ty) (C : List UInt8) (hC : C.length = 32) (hx : a.eval x = .agg (byteCells C).toArray) (hy : a.eval y = .agg (byteCells C).toArray) : YieldsIf Try.prog ops S o (.bool false) a :=
  .inl ⟨hw, fun w _ => by
    have hc := hash_cells C hC
    have hn : (binOp .neq 28 (.agg (byteCells C).toArray) (.agg (byteCells C).toArray)).run Try.prog w = .ok (.bool false) w := by
      have h := hc.eql w
      rw [run_eql_struct] at h
      rw [run_neq_struct]
      cases hq : (Op.equalIn 10000 28 (.agg (byteCells C).toArray) (.agg (byteCells C).toArray)).run Try.prog w with
      | ok b w' =>
        rw [hq] at h
        simp only [Result.andThen_ok, Result.ok.injEq, Value.bool.injEq] at h ⊢
        rw [h.1, h.2]
        exact ⟨rfl, rfl⟩
      | halt e w' =>
        rw [hq] at h
        cases h
    simp only [execOp, ho, hx, hy, Sem.run_bind, hc.guard, hn, Result.andThen_ok, Sem.run_pure]⟩
end

theorem Hashs.zero {w : World} (B : Nat) (A : Option Addr) : Hashs w B A 0 [] := ⟨⟨rfl, .inl rfl⟩, fun x hx => by cases hx⟩

set_option maxHeartbeats 400000 in
theorem CopyHashs_any {w : World} (A : Option Addr) (n c : Nat) (xs : List (List UInt8)) (h : HashsIn w A n c xs) :
    Calls Try.prog 47 #[.slice A n c] w fun e w' => ∃ A' c', e = .returned (.slice A' n c') ∧ w'.ownsRow w.heap.size 28 32 (.slice A' n c') n (hashCells xs) ∧ Below w.heap.size w w' := by
  obtain ⟨hx, hn, hc, hnil⟩ := h
  obtain ⟨i0, hi, hz0, hz1, hz2⟩ := info_parts Try.infoHashD
  have hl : (w.alloc (.cells #[] 28)).ownsRow w.heap.size 28 32 (.slice (some ⟨w.heap.size, 0, none⟩) 0 0) 0 [] := ⟨rfl, .inr ⟨w.heap.size, 0, #[], rfl, Nat.le_refl _, Holds.new w _ _, Nat.le_refl _, Nat.zero_le _, rfl, rfl⟩⟩
  have hl' := hid hl
  clear hl
  go_enter Try.func47, Try.ntmps47
  go_wp2_with (at_builtin; refine wpList_appends rfl (.tmp 3) (.tmp 4) 41 28 rfl w.heap.size i0 _ 32 32 Try.underlying41 hi hz0 hz1 hz2 (by decide) (by decide) (some ⟨w.heap.size, 0, none⟩) 0 0 [] w.heap.size A n c (hashCells xs) rfl rfl hnil (hashCells_each _) (by omega) (by omega) (by exact hl'.out) (by exact At.alloc hx.1 (Nat.le_refl _) _) (by first | (simp; done) | (simp; omega) | omega) ?_; intro A6 c6 w1 hown1 hb1 hg1)
  go_ret
  rw [Nat.zero_add, List.nil_append] at hown1
  exact ⟨_, _, rfl, hown1, ((Below.refl _ _).alloc (Nat.le_refl _) _).trans hb1⟩

set_option maxRecDepth 100000 in
set_option maxHeartbeats 1000000 in
theorem LendHashs_any {w : World} (A : Option Addr) (n c : Nat) (xs : List (List UInt8)) (h : HashsIn w A n c xs) :
    Calls Try.prog 26 #[.slice A n c] w fun e w' => ∃ A' c', e = .returned (.slice A' n c') ∧ n + 2 ≤ c' ∧ Hashs w' w'.heap.size A' (n + 2) (xs ++ roomHs) ∧ Below w.heap.size w w' := by
  have h0 := h
  obtain ⟨hx, hn, hc, hnil⟩ := h
  obtain ⟨i0, hi, hz0, hz1, hz2⟩ := info_parts Try.infoHashD
  have hrl : roomH.length = 32 := rfl
  have hall : ∀ x ∈ xs ++ roomHs, x.length = 32 := by
    intro x hm
    rcases List.mem_append.1 hm with hm | hm
    · exact hx.2 x hm
    · simp [roomHs] at hm
      subst hm
      exact hrl
  have hall' := hid hall
  clear hall
  go_enter Try.func26, Try.ntmps26
  go_wp2_with fail
  refine (CopyHashs_any A n c xs h0).mono ?_
  rintro e w1 ⟨A1, c1, rfl, hown, hb⟩
  have hsz := hb.size
  go_wp2_with (first
    | ((with_reducible refine at_slot (some 6) ?_); refine wpList_run rfl (.agg (byteCells roomH).toArray) w1 (by kernel_rfl) ?_)
    | ((with_reducible refine at_slot (some 7) ?_); refine wpList_run rfl (.agg (byteCells roomH).toArray) w1 (by kernel_rfl) ?_)
    | ((with_reducible refine at_slot (some 8) ?_); refine wpList_run rfl (.slice (some ⟨w1.heap.size, 0, none⟩) 2 2) (w1.alloc (.cells (hashCells roomHs).toArray 28)) (by kernel_rfl) ?_)
    | (at_builtin; refine wpList_appends rfl (.tmp 5) (.tmp 8) 41 28 rfl w.heap.size i0 _ 32 32 Try.underlying41 hi hz0 hz1 hz2 (by decide) (by decide) A1 n c1 (hashCells xs) (w1.heap.size + 1) (some ⟨w1.heap.size, 0, none⟩) 2 2 (hashCells roomHs) rfl rfl (fun h => by cases h) (hashCells_each _) (by omega) (by omega) (by exact hown.alloc _) (by exact At.of_holds (Holds.new w1 28 (hashCells roomHs).toArray) (by kernel_rfl) (Nat.lt_succ_self _)) (by first | (simp; done) | (simp; omega) | omega) ?_; intro A6 c6 w2 hown2 hb2 hg2; have hc6 := own_cap hown2)
    | fail)
  go_ret
  refine ⟨_, _, rfl, own_cap hown2, ⟨?_, hall'.out⟩, ?_⟩
  · rw [hashCells_append]
    exact At.of_own hown2
  · exact (hb.alloc hsz _).trans hb2

set_option maxHeartbeats 1000000 in
set_option maxRecDepth 100000 in
theorem SameHashs_any (A : Option Addr) (n c : Nat) (xs : List (List UInt8)) (A' : Option Addr) (c' : Nat) (B : Nat) (w : World) (h : Hashs w B A n xs) (hn : n ≤ 100000000000000) (h' : Hashs w B A' n xs) :
    Calls Try.prog 30 #[.slice A n c, .slice A' n c'] w fun e w' => e = .returned (.bool true) ∧ ∃ m, w' = w.drewN m := by
  have g := hid h
  have g' := hid h'
  clear h h'
  go_enter Try.func30, Try.ntmps30
  go_wp2
  go_loopw [5] (fun i wr => ∃ k m : Nat, k ≤ n ∧ i = .int .i64 k ∧ wr = w.drewN m) (fun i _ => n - (intOf i).toNat)
  case atStart => exact ⟨0, 0, Nat.zero_le _, rfl, rfl⟩
  case round =>
    obtain ⟨k, m, hk, rfl, rfl⟩ := hrel
    by_cases hlt : k < n
    · obtain ⟨p, x, rfl, hB, -, hx, hx32, hc⟩ := g.out.get hlt
      obtain ⟨p', x', rfl, hB', -, hx', -, hc'⟩ := g'.out.get hlt
      obtain rfl : x = x' := Option.some.inj (hx.symm.trans hx')
      have hkn : (k : Int) < (n : Int) := by omega
      have hk0 : (0 : Int) ≤ (k : Int) := by omega
      have hto : (k : Int).toNat = k := by omega
      have hcd : CellsAt (w.drewN m).drew (p.add (k * 32)) (byteCells x) := hc
      have hcd' : CellsAt (w.drewN m).drew (p'.add (k * 32)) (byteCells x) := hc'
      have hcd1 := hid hcd
      have hcd2 := hid hcd'
      have hiz := hid (hash_cells x hx32).size'
      clear hx hx' hc hc' hcd hcd'
      go_wp2_with fail
      refine wp_region_held_drew (S := fun W => CellsAt W (p.add (k * 32)) (byteCells x) ∧ CellsAt W (p'.add (k * 32)) (byteCells x)) (by kernel_rfl) (by exact ⟨hcd1.out, hcd2.out⟩) (fun hHeld => ?_)
      refine wpAnyH_take (i := 0) (v := .slice (some p) n c) rfl (by kernel_rfl) (by kernel_rfl) (by kernel_rfl) (fun _ _ _ h => h) (yieldsIf_move _ rfl rfl rfl) hHeld ?_
      simp only [ly1, ly2, ly3, Act.put, ly5, ly6, ly7]
      refine wpAnyH_take (i := 1) (v := .int .i64 (k : Int)) rfl (by kernel_rfl) (by kernel_rfl) (by kernel_rfl) (fun _ _ _ h => h) (yieldsIf_move _ rfl rfl rfl) hHeld ?_
      simp only [ly1, ly2, ly3, Act.put, ly5, ly6, ly7]
      refine wpAnyH_take (i := 2) (v := .pointer (some (p.add (k * 32)))) rfl (by kernel_rfl) (by kernel_rfl) (by kernel_rfl) (fun _ _ _ h => h) (.inl ⟨by kernel_rfl, fun w _ => by go_simp⟩) hHeld ?_
      simp only [ly1, ly2, ly3, Act.put, ly5, ly6, ly7]
      refine wpAnyH_take (i := 3) (v := .agg (byteCells x).toArray) rfl (by kernel_rfl) (by kernel_rfl) (by kernel_rfl) (fun _ _ _ h => h) (yieldsIf_load_far (by kernel_rfl) _ _ rfl _ rfl _ _ (fun W h => h.1) Try.underlying28 rfl (by exact hiz.out)) hHeld ?_
      simp only [ly1, ly2, ly3, Act.put, ly5, ly6, ly7]
      refine wpAnyH_take (i := 4) (v := .slice (some p') n c') rfl (by kernel_rfl) (by kernel_rfl) (by kernel_rfl) (fun _ _ _ h => h) (yieldsIf_move _ rfl rfl rfl) hHeld ?_
      simp only [ly1, ly2, ly3, Act.put, ly5, ly6, ly7]
      refine wpAnyH_take (i := 5) (v := .int .i64 (k : Int)) rfl (by kernel_rfl) (by kernel_rfl) (by kernel_rfl) (fun _ _ _ h => h) (yieldsIf_move _ rfl rfl rfl) hHeld ?_
      simp only [ly1, ly2, ly3, Act.put, ly5, ly6, ly7]
      refine wpAnyH_take (i := 6) (v := .pointer (some (p'.add (k * 32)))) rfl (by kernel_rfl) (by kernel_rfl) (by kernel_rfl) (fun _ _ _ h => h) (.inl ⟨by kernel_rfl, fun w _ => by go_simp⟩) hHeld ?_
      simp only [ly1, ly2, ly3, Act.put, ly5, ly6, ly7]
      refine wpAnyH_take (i := 7) (v := .agg (byteCells x).toArray) rfl (by kernel_rfl) (by kernel_rfl) (by kernel_rfl) (fun _ _ _ h => h) (yieldsIf_load_far (by kernel_rfl) _ _ rfl _ rfl _ _ (fun W h => h.2) Try.underlying28 rfl (by exact hiz.out)) hHeld ?_
      simp only [ly1, ly2, ly3, Act.put, ly5, ly6, ly7]
      refine wpAnyH_take (i := 8) (v := .bool false) rfl (by kernel_rfl) (by kernel_rfl) (by kernel_rfl) (fun _ _ _ h => h) (yieldsIf_hsame (by kernel_rfl) _ _ _ rfl x hx32 rfl rfl) hHeld ?_
      simp only [ly1, ly2, ly3, Act.put, ly5, ly6, ly7]
      refine wpAnyH_done (by kernel_rfl) ?_ _
      go_wp2_with fail
      go_roundw
      case rel => exact ⟨k + 1, m + 1, by omega, by go_num, rfl⟩
      case measure => simp [intOf]; omega
    · obtain rfl : k = n := by omega
      go_wp2
      go_ret
      exact ⟨rfl, m, rfl⟩

set_option maxRecDepth 100000 in
set_option maxHeartbeats 1000000 in
theorem KeptHashs_any {w : World} (A : Option Addr) (n c : Nat) (xs : List (List UInt8)) (A' : Option Addr) (c' : Nat) (B : Nat) (hx : Hashs w B A' n xs) (hn : n ≤ 100000000000000) (hc : n + 2 ≤ c) (h : Hashs w B A (n + 2) (xs ++ roomHs)) :
    Calls Try.prog 32 #[.slice A n c, .slice A' n c'] w fun e w' => e = .returned (.bool true) ∧ ∃ m, w' = w.drewN m := by
  have hl := hx.len
  obtain ⟨p, x1, rfl, hB, -, hx1, hx32, hc1⟩ := h.get (k := n) (by omega)
  obtain ⟨p', x2, hpp, _, -, hx2, hy32, hc2⟩ := h.get (k := n + 1) (by omega)
  obtain rfl : p = p' := by injection hpp
  obtain rfl : x1 = roomH := by
    rw [List.getElem?_append_right (by omega), hl, Nat.sub_self] at hx1
    exact (Option.some.inj hx1).symm
  obtain rfl : x2 = roomH := by
    rw [List.getElem?_append_right (by omega), hl, Nat.add_sub_cancel_left] at hx2
    exact (Option.some.inj hx2).symm
  have hf := h.front hl
  have c1 := hid (SameHashs_any (some p) n c xs A' c' B w hf hn hx)
  have hiz := hid (hash_cells roomH hx32).size'
  have q1 := hid (fun m => show CellsAt (w.drewN m) (p.add (n * 32)) (byteCells roomH) from hc1)
  have q2 := hid (fun m => show CellsAt (w.drewN m) (p.add ((n + 1) * 32)) (byteCells roomH) from hc2)
  clear hpp hf hx1 hx2 hc1 hc2 hx h
  go_enter Try.func32, Try.ntmps32
  go_wp2_with fail
  refine c1.out.mono ?_
  rintro e w' ⟨rfl, m, rfl⟩
  have r1 := hid (q1.out m)
  have r2 := hid (q2.out m)
  have hend := hid (show ∃ k, w.drewN m = w.drewN k from ⟨m, rfl⟩)
  clear q1 q2 c1
  generalize w.drewN m = W at *
  have n1 : (n : Int) + 1 < (n : Int) + 2 := by omega
  have n2 : (0 : Int) ≤ (n : Int) + 1 := by omega
  have n3 : ((n : Int) + 1).toNat = n + 1 := by omega
  have n4 : (n : Int) < (n : Int) + 2 := by omega
  have n5 := IntWalk.i64_in ((n : Int) + 1) (by omega)
  rename_i hK1
  refine hK1 _ _ ?_
  clear hK1
  go_wp2_with (first
    | ((with_reducible refine at_slot (some 19) ?_); refine wpList_load_far_on (by kernel_rfl) 28 (.tmp 18) rfl (p.add (n * 32)) rfl (byteCells roomH) _ r1.out Try.underlying28 rfl (by exact hiz.out) ?_)
    | ((with_reducible refine at_slot (some 20) ?_); refine wpList_run_on (by kernel_rfl) (.agg (byteCells roomH).toArray) W (by kernel_rfl) ?_)
    | ((with_reducible refine at_slot (some 21) ?_); refine wpList_heql_on (by kernel_rfl) (.tmp 19) (.tmp 20) _ rfl roomH hx32 rfl rfl ?_)
    | ((with_reducible refine at_slot (some 29) ?_); refine wpList_load_far_on (by kernel_rfl) 28 (.tmp 28) rfl (p.add ((n + 1) * 32)) rfl (byteCells roomH) _ r2.out Try.underlying28 rfl (by exact hiz.out) ?_)
    | ((with_reducible refine at_slot (some 30) ?_); refine wpList_run_on (by kernel_rfl) (.agg (byteCells roomH).toArray) W (by kernel_rfl) ?_)
    | ((with_reducible refine at_slot (some 31) ?_); refine wpList_heql_on (by kernel_rfl) (.tmp 29) (.tmp 30) _ rfl roomH hx32 rfl rfl ?_)
    | fail)
  go_ret
  exact ⟨rfl, hend.out⟩

end Go.Proofs.Ytenfhmpjhbpkpaa
