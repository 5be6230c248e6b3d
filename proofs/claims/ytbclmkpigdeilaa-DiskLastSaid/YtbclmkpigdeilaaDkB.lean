/- Layer 7, the program's side: a disk's New, Read, Sync, Dirty, Sectors. -/
import Derived.Test.YtbclmkpigdeilaaDkA
namespace Go.Proofs.Ytbclmkpigdeilaa
open Go.RowKit
open Go.Lib (strCells strCells_length strCells_oneCell)

section
variable {P : Program} {ops : Array Oper} {o : Oper} {a : Act} {w : World} {Q : Exit → Act → World → Prop}
/-- 'clear(m)', as it runs. -/
theorem wpList_wipe {rest : List Oper} (hgd : o.guard = none) (x : Operand) (t : TypeId) (ho : o.op = .call { callee := .builtin .clear, args := #[x], argTypes := #[t] }) (M : Value) (hx : a.eval x = M) (w' : World)
    (hr : (Builtin.clear_ #[t] o.type #[M]).run P w = .ok (.tuple #[]) w') (h : wpList P ops Q rest (a.put o.dst (.tuple #[])) w') : wpList P ops Q (o :: rest) a w :=
  wpList_plain hgd fun K hK => by
    unfold Oper.wp execOp
    simp only [ho, resolve, invoke, builtin, Sem.run_bind, Sem.run_pure, Result.andThen_ok, List.map_toArray, List.map_cons, List.map_nil, hx, hr]
    exact hK _ _ h
end

set_option maxRecDepth 100000 in
theorem dkNew_no (n : Int) (h : ¬ (1 ≤ n ∧ n ≤ 256)) (w : World) : Calls Try.prog 29 #[.int .i64 n] w fun e w' => e = .returned (.tuple #[.pointer none, .int .i64 700]) ∧ w' = w := by
  by_cases h1 : n < 1
  · go_enter Try.func29, Try.ntmps29
    go_wp2
    go_ret2
    exact ⟨rfl, rfl⟩
  · have h2 : 256 < n := by omega
    go_enter Try.func29, Try.ntmps29
    go_wp2
    go_ret2
    exact ⟨rfl, rfl⟩
set_option maxRecDepth 100000 in
theorem dkNew_yes (n : Nat) (h1 : 1 ≤ n) (h2 : n ≤ 256) (w : World) : Calls Try.prog 29 #[.int .i64 (n : Int)] w fun e w' => e = .returned (.tuple #[.pointer (some ⟨w.heap.size + 2, 0, none⟩), .int .i64 0]) ∧ DiskAt w' (w.heap.size + 2) w.heap.size (w.heap.size + 1) n (Dk.new n) ∧ Below w.heap.size w w' := by
  have hmm := @run_makeMap Try.prog
  have h3 : ¬ (n : Int) < 1 := by omega
  have h4 : ¬ (256 : Int) < (n : Int) := by omega
  obtain ⟨cs, hcs⟩ : ∃ cs, (secCells (List.replicate n (zeroS 64))).toArray = cs := ⟨_, rfl⟩
  have hs : (w.alloc (.cells cs 121)).heap.size = w.heap.size + 1 := by simp
  have hs2 : ((w.alloc (.cells cs 121)).alloc (.map #[] 0)).heap.size = w.heap.size + 2 := by simp
  have hR := Holds.new w 121 cs
  have hM := MapS.new (w.alloc (.cells cs 121))
  rw [hs] at hM
  have hH := Holds.new ((w.alloc (.cells cs 121)).alloc (.map #[] 0)) 115 #[.slice (some ⟨w.heap.size, 0, none⟩) n n, .map (some (w.heap.size + 1))]
  rw [hs2] at hH
  have hA := hid (show DiskAt (((w.alloc (.cells cs 121)).alloc (.map #[] 0)).alloc (.cells #[.slice (some ⟨w.heap.size, 0, none⟩) n n, .map (some (w.heap.size + 1))] 115)) (w.heap.size + 2) w.heap.size (w.heap.size + 1) n (Dk.new n) from
    ⟨hH, by have := (hR.alloc (.map #[] 0)).alloc (.cells #[.slice (some ⟨w.heap.size, 0, none⟩) n n, .map (some (w.heap.size + 1))] 115); rw [← hcs] at this ⊢; exact this, hM.alloc _, Dk.fine.new n, h2, by omega⟩)
  have hB := hid (show Below w.heap.size w (((w.alloc (.cells cs 121)).alloc (.map #[] 0)).alloc (.cells #[.slice (some ⟨w.heap.size, 0, none⟩) n n, .map (some (w.heap.size + 1))] 115)) from (((Below.refl _ _).alloc (Nat.le_refl _) _).alloc (by simp) _).alloc (by simp; omega) _)
  have hcs' := hid hcs
  clear hM hH hs hR hs2 hcs
  go_enter Try.func29, Try.ntmps29
  go_wp2_with (first
    | ((with_reducible refine at_slot (some 11) ?_); refine wpList_make_secs rfl (.tmp 10) (.tmp 10) rfl (n : Int) n rfl rfl rfl (by omega) ?_; rw [hcs'.out])
    | fail)
  go_ret2
  exact ⟨by simp, hA.out, hB.out⟩

set_option maxRecDepth 100000 in
theorem dkHas (b : Bool) (at_ : Int) (d r bb n : Nat) (D : Dk) (h : b = decide (0 ≤ at_ ∧ at_ < (n : Int))) (w : World) (hD : DiskAt w d r bb n D) : Calls Try.prog 59 #[.pointer (some ⟨d, 0, none⟩), .int .i64 at_] w fun e w' => e = .returned (.bool b) ∧ w = w' := by
  have c0 := hD.own.cK 0 _ rfl
  clear hD
  by_cases h1 : 0 ≤ at_
  · by_cases h2 : at_ < (n : Int)
    · rw [decide_eq_true ⟨h1, h2⟩] at h
      subst h
      go_enter Try.func59, Try.ntmps59
      go_wp2
      go_ret
      exact ⟨rfl, rfl⟩
    · rw [decide_eq_false (fun e => h2 e.2)] at h
      subst h
      have h3 : (n : Int) ≤ at_ := by omega
      go_enter Try.func59, Try.ntmps59
      go_wp2
      go_ret
      exact ⟨rfl, rfl⟩
  · rw [decide_eq_false (fun e => h1 e.1)] at h
    subst h
    go_enter Try.func59, Try.ntmps59
    go_wp2
    go_ret
    exact ⟨rfl, rfl⟩
set_option maxRecDepth 100000 in
theorem dkSectors_any (d r b n : Nat) (D : Dk) (w : World) (hD : DiskAt w d r b n D) : Calls Try.prog 42 #[.pointer (some ⟨d, 0, none⟩)] w fun e w' => e = .returned (.int .i64 (n : Int)) ∧ w = w' := by
  have c0 := hD.own.cK 0 _ rfl
  clear hD
  go_enter Try.func42, Try.ntmps42
  go_wp2
  go_ret
  exact ⟨rfl, rfl⟩
set_option maxRecDepth 100000 in
theorem dkDirty_any (d r b n : Nat) (D : Dk) (w : World) (hD : DiskAt w d r b n D) : Calls Try.prog 40 #[.pointer (some ⟨d, 0, none⟩)] w fun e w' => e = .returned (.int .i64 (D.old.length : Int)) ∧ w = w' := by
  have c1 := hD.own.cK 1 _ rfl
  have hl := fun ty => hD.len ty
  clear hD
  go_enter Try.func40, Try.ntmps40
  go_wp2
  go_ret
  exact ⟨rfl, rfl⟩
set_option maxRecDepth 100000 in
theorem dkSync_any (d r b n : Nat) (D : Dk) (w : World) (hD : DiskAt w d r b n D) : Calls Try.prog 36 #[.pointer (some ⟨d, 0, none⟩)] w fun e w' => e = .returned (.int .i64 0) ∧ DiskAt w' d r b n D.sync ∧ Turns w w' r (some b) := by
  have c1 := hD.own.cK 1 _ rfl
  have hcl := hid (fun ty => hD.wipe ty)
  clear hD
  go_enter Try.func36, Try.ntmps36
  go_wp2_with (first
    | ((with_reducible refine at_slot none ?_); obtain ⟨W1, hr, hA, hT⟩ := hcl.out _; refine wpList_wipe rfl (.tmp 8) _ rfl (.map (some b)) rfl W1 (by exact hr) ?_; have hA := hid hA; have hT := hid hT; clear hr)
    | fail)
  go_ret
  exact ⟨rfl, hA.out, hT.out⟩
set_option maxRecDepth 100000 in
theorem dkRead_no (at_ : Int) (d r b n : Nat) (D : Dk) (h : ¬ (0 ≤ at_ ∧ at_ < (n : Int))) (w : World) (hD : DiskAt w d r b n D) : Calls Try.prog 34 #[.pointer (some ⟨d, 0, none⟩), .int .i64 at_] w fun e w' => e = .returned (.tuple #[.string ⟨#[]⟩, .int .i64 700]) ∧ w = w' := by
  have hh := dkHas false at_ d r b n D (decide_eq_false h).symm w hD
  clear hD h
  go_enter Try.func34, Try.ntmps34
  go_wp2_with (first
    | (go_at_call 59; refine hh.mono ?_; rintro e w' ⟨rfl, rfl⟩)
    | fail)
  go_ret2
  exact ⟨rfl, rfl⟩
set_option maxRecDepth 100000 in
theorem dkRead_yes (k : Nat) (d r b n : Nat) (D : Dk) (h : k < n) (w : World) (hD : DiskAt w d r b n D) : Calls Try.prog 34 #[.pointer (some ⟨d, 0, none⟩), .int .i64 (k : Int)] w fun e w' => e = .returned (.tuple #[.string (D.xs.getD k ⟨#[]⟩), .int .i64 0]) ∧ w = w' := by
  have hh := dkHas true (k : Int) d r b n D (decide_eq_true ⟨by omega, by omega⟩).symm w hD
  have c0 := hD.own.cK 0 _ rfl
  have h2 : (k : Int) < (n : Int) := by omega
  have hs := hD.sec h
  have h64 := hD.fine.get h
  obtain ⟨s, hsd⟩ : ∃ s, D.xs.getD k ⟨#[]⟩ = s := ⟨_, rfl⟩
  rw [hsd] at hs h64 ⊢
  have hcv := hid (show (convert 51 9 (.slice (some ⟨r, k * 64, none⟩) 64 64)).run Try.prog w = .ok (.string s) w from by
    have := run_convert_bytes_back (P := Try.prog) w 51 9 5 ⟨r, k * 64, none⟩ 64 s.data.toList Try.underlying51 Try.underlying5 Try.underlying9 (fun j hj => hs j _ (by unfold strCells; rw [List.getElem?_map, List.getElem?_eq_getElem hj]; rfl))
    rw [data_length, h64] at this
    exact this)
  clear hD h hs h64 hsd
  go_enter Try.func34, Try.ntmps34
  go_wp2_with (first
    | (go_at_call 59; refine hh.mono ?_; rintro e w' ⟨rfl, rfl⟩)
    | ((with_reducible refine at_slot (some 19) ?_); refine wpList_convert rfl 51 9 (.tmp 18) rfl (.slice (some ⟨r, k * 64, none⟩) 64 64) (.string s) w rfl (by exact hcv.out) ?_)
    | fail)
  go_ret2
  exact ⟨rfl, rfl⟩

end Go.Proofs.Ytbclmkpigdeilaa
