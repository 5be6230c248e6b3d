/- Layer 9's statements: what every program answers that is one. -/
import Derived.Test.YtenfhmpjhbpkpaaMlogB
import Derived.Test.YtenfhmpjhbpkpaaNum0
import Derived.Test.YtenfhmpjhbpkpaaLendT
namespace Go.Proofs.Ytenfhmpjhbpkpaa
open Go.RowKit
open Go.Lib (strCells strCells_length strCells_oneCell)
attribute [local irreducible] Sha.compress Sha.blocks Sha.sha Sha.pad

/-- A statement's own tree. -/
structure TrAt (w0 wr : World) (g : Nat) (xs : List ByteArray) (r : Option Nat) : Prop where
  t : TreeAt wr g xs r
  lg : w0.heap.size ≤ g
  lr : ∀ k, r = some k → w0.heap.size ≤ k
  b : Below w0.heap.size w0 wr

section
variable {w0 wr w' : World} {g : Nat} {xs ys : List ByteArray} {r r' : Option Nat}

theorem TrAt.up (h : TrAt w0 wr g xs r) (hb : Below wr.heap.size wr w') : TrAt w0 w' g xs r := ⟨h.t.keep hb, h.lg, h.lr, h.b.trans (hb.mono h.b.size)⟩

theorem TrAt.next (h : TrAt w0 wr g xs r) (ht : TreeAt w' g ys r') (hts : Turns wr w' g r) (hf : Fresh wr r r') : TrAt w0 w' g ys r' :=
  ⟨ht, h.lg, hf.ge h.lr h.b.size, h.b.trans (hts.below h.lg h.lr h.b.size)⟩

theorem TrAt.new (hb : Below w0.heap.size w0 wr) : Calls Try.prog 13 #[] wr fun e w' => e = .returned (.pointer (some ⟨wr.heap.size, 0, none⟩)) ∧ TrAt w0 w' wr.heap.size [] none ∧ Below wr.heap.size wr w' :=
  (mNew_any wr).mono fun _ _ ⟨he, ht, hb'⟩ => ⟨he, ⟨ht, hb.size, (fun k e => by cases e), hb.trans (hb'.mono hb.size)⟩, hb'⟩

theorem TrAt.append (h : TrAt w0 wr g xs r) (x : ByteArray) (hx : x.size ≤ 140737488351232) (hn : xs.length < 10000000000000) :
    Calls Try.prog 17 #[.pointer (some ⟨g, 0, none⟩), .string x] wr fun e w' => e = .returned (.tuple #[]) ∧ ∃ r', TrAt w0 w' g (xs ++ [x]) r' ∧ Turns wr w' g r ∧ Fresh wr r r' :=
  (mAppend_any g xs r x wr hx hn h.t).mono fun _ _ ⟨he, r', h1, h2, h3⟩ => ⟨he, r', h.next h1 h2 h3, h2, h3⟩
end

theorem HashCells.neq {cs : List Value} (h : HashCells cs) (w : World) : (binOp .neq 28 (.agg cs.toArray) (.agg cs.toArray)).run Try.prog w = .ok (.bool false) w := by
  have h := h.eql w
  rw [run_eql_struct] at h
  rw [run_neq_struct]
  cases hq : (Op.equalIn 10000 28 (.agg cs.toArray) (.agg cs.toArray)).run Try.prog w with
  | ok b w' =>
    rw [hq] at h
    simp only [Result.andThen_ok, Result.ok.injEq, Value.bool.injEq] at h ⊢
    rw [h.1, h.2]
    exact ⟨rfl, rfl⟩
  | halt e w' =>
    rw [hq] at h
    cases h

section
variable {ops : Array Oper} {S : World → Prop} {o : Oper} {a : Act} {cs : List Value}
/-- Two hashes that are one, compared. -/
theorem yieldsIf_eql (hc : HashCells cs) (hw : Region.wanted o (yielded ops a.tmps) = true) (x y : Operand) (ty : TypeId) (ho : o.op = .binOp .eql 28 x y ty) (hx : a.eval x = .agg cs.toArray) (hy : a.eval y = .agg cs.toArray) : YieldsIf Try.prog ops S o (.bool true) a :=
  .inl ⟨hw, fun w _ => by simp [execOp, ho, hx, hy, hc.guard, hc.eql]⟩

theorem yieldsIf_neq (hc : HashCells cs) (hw : Region.wanted o (yielded ops a.tmps) = true) (x y : Operand) (ty : TypeId) (ho : o.op = .binOp .neq 28 x y ty) (hx : a.eval x = .agg cs.toArray) (hy : a.eval y = .agg cs.toArray) : YieldsIf Try.prog ops S o (.bool false) a :=
  .inl ⟨hw, fun w _ => by simp only [execOp, ho, hx, hy, Sem.run_bind, hc.guard, hc.neq, Result.andThen_ok, Sem.run_pure]⟩
end

set_option maxRecDepth 100000 in
set_option maxHeartbeats 2000000 in
theorem awake9_any (w : World) : Calls Try.prog 22 #[] w fun e w' => e = .returned (.bool true) ∧ Below w.heap.size w w' := by
  have C0 := hid (hash_root [])
  have C1 := hid (hash_root [⟨#[120]⟩])
  have C2 := hid (hash_root [⟨#[120]⟩, ⟨#[121]⟩])
  have hR0 := hid (fun W g r (h : TreeAt W g [] r) => tRoot_any g [] r W h)
  have hR1 := hid (fun W g r (h : TreeAt W g [⟨#[120]⟩] r) => tRoot_any g [⟨#[120]⟩] r W h)
  have hR2 := hid (fun W g r (h : TreeAt W g [⟨#[120]⟩, ⟨#[121]⟩] r) => tRoot_any g [⟨#[120]⟩, ⟨#[121]⟩] r W h)
  have hM := hid (fun W A c (h : Texts W W.heap.size A 2 [⟨#[120]⟩, ⟨#[121]⟩]) => mRoot_any A 2 c [⟨#[120]⟩, ⟨#[121]⟩] W h (by decide) (by decide))
  have hs0 := hid (fun W => rsha_any ⟨#[]⟩ W (by decide))
  have hsx := hid (fun W => rsha_any ⟨#[0, 120]⟩ W (by decide))
  have hlx := hid (fun W => mLeaf_any ⟨#[120]⟩ W (by decide))
  have e0 : hashV ((⟨#[]⟩ : ByteArray).data.toList) = hv (rootH []) := rfl
  have ex : hashV ((⟨#[0, 120]⟩ : ByteArray).data.toList) = hv (rootH [⟨#[120]⟩]) := by rw [rootH_one]; rfl
  have el : hv (leafH ((⟨#[120]⟩ : ByteArray).data.toList)) = hv (rootH [⟨#[120]⟩]) := by rw [rootH_one]
  rw [e0] at hs0
  rw [ex] at hsx
  rw [el] at hlx
  clear e0 ex el
  unfold hv at *
  generalize byteCells (rootH []) = c0 at *
  generalize byteCells (rootH [⟨#[120]⟩]) = c1 at *
  generalize byteCells (rootH [⟨#[120]⟩, ⟨#[121]⟩]) = c2 at *
  go_enter Try.func22, Try.ntmps22
  go_wp2_with fail
  refine (TrAt.new (w0 := w) (Below.refl _ _)).mono ?_
  rintro e W1 ⟨rfl, hT1, hb1⟩
  have hT1' := hid hT1
  clear hT1 hb1
  go_wp2_with fail
  refine (hR0.out _ _ _ hT1'.out.t).mono ?_
  rintro e W2 ⟨rfl, hb2⟩
  have hT2 := hid (hT1'.out.up hb2)
  clear hb2
  rename_i hK1
  refine hK1 _ _ ?_
  clear hK1
  go_wp2_with (first
    | ((with_reducible refine at_slot (some 2) ?_); refine wpList_run rfl (.pointer (some ⟨W2.heap.size, 0, none⟩)) (W2.alloc (.cells z32 28)) (by kernel_rfl) ?_)
    | ((with_reducible refine at_slot none ?_); refine wpList_store_mid rfl 28 (.tmp 2) (.tmp 6) rfl W2.heap.size 0 c0.toArray rfl rfl (by exact C0.out.there W2) (by exact C0.out.size) (by exact C0.out.one) ?_; generalize hW : World.setCells _ _ _ _ = W3)
    | fail)
  obtain ⟨hH3, hb3⟩ := C0.out.new hW
  have hT3 := hid (hT2.out.up hb3)
  have hH3' := hid hH3
  clear hW hH3 hb3
  refine (hT3.out.append ⟨#[120]⟩ (by decide) (by decide)).mono ?_
  rintro e W4 ⟨rfl, r4, hT4, ht4, hf4⟩
  have hgl := hT3.out.t.lt.1
  have hg2 : W2.heap.size ≠ w.heap.size := by have := hT2.out.t.lt.1; omega
  have hH4 := hid (ht4.holds hH3'.out hg2 (by simp))
  have hT4' := hid hT4
  have hr4 : some W2.heap.size ≠ r4 := by
    intro e
    have h0 := hH3'.out.lt
    rcases hf4 with e1 | ⟨k, e1, e2⟩
    · rw [e1] at e; cases e
    · rw [e1] at e; have := Option.some.inj e; omega
  clear hT4 ht4 hf4
  go_wp2_with fail
  refine (hR1.out _ _ _ hT4'.out.t).mono ?_
  rintro e W5 ⟨rfl, hb5⟩
  have hT5 := hid (hT4'.out.up hb5)
  have hH5 := hid (hH4.out.below hb5 hH4.out.lt)
  clear hb5
  rename_i hK1
  refine hK1 _ _ ?_
  clear hK1
  go_wp2_with (first
    | ((with_reducible refine at_slot (some 3) ?_); refine wpList_run rfl (.pointer (some ⟨W5.heap.size, 0, none⟩)) (W5.alloc (.cells z32 28)) (by kernel_rfl) ?_)
    | ((with_reducible refine at_slot none ?_); refine wpList_store_mid rfl 28 (.tmp 3) (.tmp 10) rfl W5.heap.size 0 c1.toArray rfl rfl (by exact C1.out.there W5) (by exact C1.out.size) (by exact C1.out.one) ?_; generalize hW : World.setCells _ _ _ _ = W6)
    | fail)
  obtain ⟨hJ6, hb6⟩ := C1.out.new hW
  have hT6 := hid (hT5.out.up hb6)
  have hH6 := hid (hH5.out.below hb6 hH5.out.lt)
  have hJ6' := hid hJ6
  clear hW hJ6 hb6
  refine (hT6.out.append ⟨#[121]⟩ (by decide) (by decide)).mono ?_
  rintro e W7 ⟨rfl, r7, hT7, ht7, hf7⟩
  have hg3 : W5.heap.size ≠ w.heap.size := by have := hT5.out.t.lt.1; omega
  have hr5 : some W5.heap.size ≠ r4 := fun e => by have := hT5.out.t.lt.2 _ e.symm; omega
  have hH7 := hid (ht7.holds hH6.out hg2 hr4)
  have hJ7 := hid (ht7.holds hJ6'.out hg3 hr5)
  have hT7' := hid hT7
  clear hT7 ht7 hf7
  have hHd := hid hH7.out.drew
  have hJd := hid hJ7.out.drew
  have hTd := hid (hT7'.out.up (Below.refl _ _).drew)
  have hu := Try.underlying28
  have hi0 : (Try.prog.info? 28).map (·.size) = some c0.length := C0.out.size'
  have hi1 : (Try.prog.info? 28).map (·.size) = some c1.length := C1.out.size'
  go_wp2_with fail
  refine wp_region_held_drew (S := fun W => Holds W W2.heap.size 28 c0 ∧ Holds W W5.heap.size 28 c1) (by kernel_rfl) (by exact ⟨hHd.out, hJd.out⟩) (fun hHeld => ?_)
  refine wpAnyH_take (i := 0) (v := .agg c0.toArray) rfl (by kernel_rfl) (by kernel_rfl) (by kernel_rfl) (fun _ _ _ h => h) (yieldsIf_load_mid (by kernel_rfl) _ _ rfl _ _ rfl _ _ (fun W h => h_all h.1) hu rfl hi0) hHeld ?_
  simp only [List.getElem_toArray, List.getElem_cons_succ, List.getElem_cons_zero, Act.put, List.setIfInBounds_toArray, List.set_cons_zero, List.set_cons_succ]
  refine wpAnyH_ready (rs := [1]) (by kernel_rfl) (by simp) (AllReadyH.cons rfl (fun K hK => ?_) AllReadyH.nil)
  have hK' := hid hK
  clear hK
  rw [if_pos (by kernel_rfl)]
  simp only [List.getElem_toArray, List.getElem_cons_succ, List.getElem_cons_zero]
  go_simp
  refine (hs0.out _).mono ?_
  rintro e W8 ⟨rfl, hb8⟩
  have hT8 := hid (hTd.out.up hb8)
  have hH8 := hid (hHd.out.below hb8 hHd.out.lt)
  have hJ8 := hid (hJd.out.below hb8 hJd.out.lt)
  clear hb8
  refine hK'.out _ _ (by exact ⟨hH8.out, hJ8.out⟩) (fun hHeld => ?_)
  clear hK' K
  refine wpAnyH_take (i := 2) (v := .bool true) rfl (by kernel_rfl) (by kernel_rfl) (by kernel_rfl) (fun _ _ _ h => h) (yieldsIf_eql C0.out (by kernel_rfl) _ _ _ rfl rfl rfl) hHeld ?_
  simp only [List.getElem_toArray, List.getElem_cons_succ, List.getElem_cons_zero, Act.put, List.setIfInBounds_toArray, List.set_cons_zero, List.set_cons_succ]
  refine wpAnyH_take (i := 3) (v := .bool true) rfl (by kernel_rfl) (by kernel_rfl) (by kernel_rfl) (fun _ _ _ h => h) (yieldsIf_move _ rfl rfl rfl) hHeld ?_
  simp only [List.getElem_toArray, List.getElem_cons_succ, List.getElem_cons_zero, Act.put, List.setIfInBounds_toArray, List.set_cons_zero, List.set_cons_succ]
  refine wpAnyH_take (i := 4) (v := .agg c1.toArray) rfl (by kernel_rfl) (by kernel_rfl) (by kernel_rfl) (fun _ _ _ h => h) (yieldsIf_load_mid (by kernel_rfl) _ _ rfl _ _ rfl _ _ (fun W h => h_all h.2) hu rfl hi1) hHeld ?_
  simp only [List.getElem_toArray, List.getElem_cons_succ, List.getElem_cons_zero, Act.put, List.setIfInBounds_toArray, List.set_cons_zero, List.set_cons_succ]
  refine wpAnyH_ready (rs := [5]) (by kernel_rfl) (by simp) (AllReadyH.cons rfl (fun K hK => ?_) AllReadyH.nil)
  have hK' := hid hK
  clear hK
  rw [if_pos (by kernel_rfl)]
  simp only [List.getElem_toArray, List.getElem_cons_succ, List.getElem_cons_zero]
  go_simp
  refine (hlx.out _).mono ?_
  rintro e W9 ⟨rfl, hb9⟩
  have hT9 := hid (hT8.out.up hb9)
  have hH9 := hid (hH8.out.below hb9 hH8.out.lt)
  have hJ9 := hid (hJ8.out.below hb9 hJ8.out.lt)
  clear hb9
  refine hK'.out _ _ (by exact ⟨hH9.out, hJ9.out⟩) (fun hHeld => ?_)
  clear hK' K
  refine wpAnyH_take (i := 6) (v := .bool true) rfl (by kernel_rfl) (by kernel_rfl) (by kernel_rfl) (fun _ _ _ h => h) (yieldsIf_eql C1.out (by kernel_rfl) _ _ _ rfl rfl rfl) hHeld ?_
  simp only [List.getElem_toArray, List.getElem_cons_succ, List.getElem_cons_zero, Act.put, List.setIfInBounds_toArray, List.set_cons_zero, List.set_cons_succ]
  refine wpAnyH_take (i := 7) (v := .bool true) rfl (by kernel_rfl) (by kernel_rfl) (by kernel_rfl) (fun _ _ _ h => h) (yieldsIf_pick _ _ _ rfl rfl rfl rfl) hHeld ?_
  simp only [List.getElem_toArray, List.getElem_cons_succ, List.getElem_cons_zero, Act.put, List.setIfInBounds_toArray, List.set_cons_zero, List.set_cons_succ]
  refine wpAnyH_take (i := 8) (v := .bool true) rfl (by kernel_rfl) (by kernel_rfl) (by kernel_rfl) (fun _ _ _ h => h) (yieldsIf_move _ rfl rfl rfl) hHeld ?_
  simp only [List.getElem_toArray, List.getElem_cons_succ, List.getElem_cons_zero, Act.put, List.setIfInBounds_toArray, List.set_cons_zero, List.set_cons_succ]
  refine wpAnyH_take (i := 9) (v := .pointer (some ⟨w.heap.size, 0, none⟩)) rfl (by kernel_rfl) (by kernel_rfl) (by kernel_rfl) (fun _ _ _ h => h) (.inl ⟨by kernel_rfl, fun w _ => by go_simp⟩) hHeld ?_
  simp only [List.getElem_toArray, List.getElem_cons_succ, List.getElem_cons_zero, Act.put, List.setIfInBounds_toArray, List.set_cons_zero, List.set_cons_succ]
  refine wpAnyH_ready (rs := [10, 11]) (by kernel_rfl) (by simp) (AllReadyH.cons rfl (fun K hK => ?_) (AllReadyH.cons rfl (fun K hK => ?_) AllReadyH.nil))
  · have hK' := hid hK
    clear hK
    rw [if_pos (by kernel_rfl)]
    simp only [List.getElem_toArray, List.getElem_cons_succ, List.getElem_cons_zero]
    go_simp
    refine (hR2.out _ _ _ hT9.out.t).mono ?_
    rintro e W10 ⟨rfl, hb10⟩
    have hT10 := hid (hT9.out.up hb10)
    have hH10 := hid (hH9.out.below hb10 hH9.out.lt)
    have hJ10 := hid (hJ9.out.below hb10 hJ9.out.lt)
    clear hb10
    refine hK'.out _ _ (by exact ⟨hH10.out, hJ10.out⟩) (fun hHeld => ?_)
    clear hK' K
    have hb11 : Below W10.heap.size W10 (W10.alloc (.cells #[.string ⟨#[120]⟩, .string ⟨#[121]⟩] 9)) := (Below.refl _ _).alloc (Nat.le_refl _) _
    have hX11 := hid (show Texts (W10.alloc (.cells #[.string ⟨#[120]⟩, .string ⟨#[121]⟩] 9)) (W10.alloc (.cells #[.string ⟨#[120]⟩, .string ⟨#[121]⟩] 9)).heap.size (some ⟨W10.heap.size, 0, none⟩) 2 [⟨#[120]⟩, ⟨#[121]⟩] from by rw [World.size_alloc]; exact At.new W10 _ 2 _ _ rfl rfl)
    have hT11 := hid (hT10.out.up hb11)
    have hH11 := hid (hH10.out.below hb11 hH10.out.lt)
    have hJ11 := hid (hJ10.out.below hb11 hJ10.out.lt)
    clear hb11
    refine wpAnyH_ready (rs := [11]) (by kernel_rfl) (by simp) (AllReadyH.cons rfl (fun K hK => ?_) AllReadyH.nil)
    have hK' := hid hK
    clear hK
    rw [if_pos (by kernel_rfl)]
    simp only [List.getElem_toArray, List.getElem_cons_succ, List.getElem_cons_zero]
    go_simp
    refine hK'.out _ _ (by exact ⟨hH11.out, hJ11.out⟩) (fun hHeld => ?_)
    clear hK' K
    refine wpAnyH_ready (rs := [12]) (by kernel_rfl) (by simp) (AllReadyH.cons rfl (fun K hK => ?_) AllReadyH.nil)
    have hK' := hid hK
    clear hK
    rw [if_pos (by kernel_rfl)]
    simp only [List.getElem_toArray, List.getElem_cons_succ, List.getElem_cons_zero]
    go_simp
    refine (hM.out _ _ _ hX11.out).mono ?_
    rintro e W15 ⟨rfl, hb15⟩
    have hT15 := hid (hT11.out.up hb15)
    have hH15 := hid (hH11.out.below hb15 hH11.out.lt)
    have hJ15 := hid (hJ11.out.below hb15 hJ11.out.lt)
    clear hb15
    refine hK'.out _ _ (by exact ⟨hH15.out, hJ15.out⟩) (fun hHeld => ?_)
    clear hK' K
    refine wpAnyH_take (i := 13) (v := .bool true) rfl (by kernel_rfl) (by kernel_rfl) (by kernel_rfl) (fun _ _ _ h => h) (yieldsIf_eql C2.out (by kernel_rfl) _ _ _ rfl rfl rfl) hHeld ?_
    simp only [List.getElem_toArray, List.getElem_cons_succ, List.getElem_cons_zero, Act.put, List.setIfInBounds_toArray, List.set_cons_zero, List.set_cons_succ]
    refine wpAnyH_take (i := 14) (v := .bool true) rfl (by kernel_rfl) (by kernel_rfl) (by kernel_rfl) (fun _ _ _ h => h) (yieldsIf_pick _ _ _ rfl rfl rfl rfl) hHeld ?_
    simp only [List.getElem_toArray, List.getElem_cons_succ, List.getElem_cons_zero, Act.put, List.setIfInBounds_toArray, List.set_cons_zero, List.set_cons_succ]
    refine wpAnyH_take (i := 15) (v := .bool true) rfl (by kernel_rfl) (by kernel_rfl) (by kernel_rfl) (fun _ _ _ h => h) (yieldsIf_move _ rfl rfl rfl) hHeld ?_
    simp only [List.getElem_toArray, List.getElem_cons_succ, List.getElem_cons_zero, Act.put, List.setIfInBounds_toArray, List.set_cons_zero, List.set_cons_succ]
    refine wpAnyH_take (i := 16) (v := .pointer (some ⟨w.heap.size, 0, none⟩)) rfl (by kernel_rfl) (by kernel_rfl) (by kernel_rfl) (fun _ _ _ h => h) (.inl ⟨by kernel_rfl, fun w _ => by go_simp⟩) hHeld ?_
    simp only [List.getElem_toArray, List.getElem_cons_succ, List.getElem_cons_zero, Act.put, List.setIfInBounds_toArray, List.set_cons_zero, List.set_cons_succ]
    refine wpAnyH_ready (rs := [17]) (by kernel_rfl) (by simp) (AllReadyH.cons rfl (fun K hK => ?_) AllReadyH.nil)
    have hK' := hid hK
    clear hK
    rw [if_pos (by kernel_rfl)]
    simp only [List.getElem_toArray, List.getElem_cons_succ, List.getElem_cons_zero]
    go_simp
    refine (mSize_any _ _ _ _ hT15.out.t).mono ?_
    rintro e w' ⟨rfl, rfl⟩
    refine hK'.out _ _ (by exact ⟨hH15.out, hJ15.out⟩) (fun hHeld => ?_)
    clear hK' K
    refine wpAnyH_take (i := 18) (v := .bool true) rfl (by kernel_rfl) (by kernel_rfl) (by kernel_rfl) (fun _ _ _ h => h) (.inl ⟨by kernel_rfl, fun w _ => by go_simp⟩) hHeld ?_
    simp only [List.getElem_toArray, List.getElem_cons_succ, List.getElem_cons_zero, Act.put, List.setIfInBounds_toArray, List.set_cons_zero, List.set_cons_succ]
    refine wpAnyH_take (i := 19) (v := .bool true) rfl (by kernel_rfl) (by kernel_rfl) (by kernel_rfl) (fun _ _ _ h => h) (yieldsIf_pick _ _ _ rfl rfl rfl rfl) hHeld ?_
    simp only [List.getElem_toArray, List.getElem_cons_succ, List.getElem_cons_zero, Act.put, List.setIfInBounds_toArray, List.set_cons_zero, List.set_cons_succ]
    refine wpAnyH_take (i := 20) (v := .bool true) rfl (by kernel_rfl) (by kernel_rfl) (by kernel_rfl) (fun _ _ _ h => h) (yieldsIf_move _ rfl rfl rfl) hHeld ?_
    simp only [List.getElem_toArray, List.getElem_cons_succ, List.getElem_cons_zero, Act.put, List.setIfInBounds_toArray, List.set_cons_zero, List.set_cons_succ]
    refine wpAnyH_ready (rs := [21]) (by kernel_rfl) (by simp) (AllReadyH.cons rfl (fun K hK => ?_) AllReadyH.nil)
    have hK' := hid hK
    clear hK
    rw [if_pos (by kernel_rfl)]
    simp only [List.getElem_toArray, List.getElem_cons_succ, List.getElem_cons_zero]
    go_simp
    refine (hlx.out _).mono ?_
    rintro e W16 ⟨rfl, hb16⟩
    have hT16 := hid (hT15.out.up hb16)
    have hH16 := hid (hH15.out.below hb16 hH15.out.lt)
    have hJ16 := hid (hJ15.out.below hb16 hJ15.out.lt)
    clear hb16
    refine hK'.out _ _ (by exact ⟨hH16.out, hJ16.out⟩) (fun hHeld => ?_)
    clear hK' K
    refine wpAnyH_ready (rs := [22]) (by kernel_rfl) (by simp) (AllReadyH.cons rfl (fun K hK => ?_) AllReadyH.nil)
    have hK' := hid hK
    clear hK
    rw [if_pos (by kernel_rfl)]
    simp only [List.getElem_toArray, List.getElem_cons_succ, List.getElem_cons_zero]
    go_simp
    refine (hsx.out _).mono ?_
    rintro e W17 ⟨rfl, hb17⟩
    have hT17 := hid (hT16.out.up hb17)
    have hH17 := hid (hH16.out.below hb17 hH16.out.lt)
    have hJ17 := hid (hJ16.out.below hb17 hJ16.out.lt)
    clear hb17
    refine hK'.out _ _ (by exact ⟨hH17.out, hJ17.out⟩) (fun hHeld => ?_)
    clear hK' K
    refine wpAnyH_take (i := 23) (v := .bool true) rfl (by kernel_rfl) (by kernel_rfl) (by kernel_rfl) (fun _ _ _ h => h) (yieldsIf_eql C1.out (by kernel_rfl) _ _ _ rfl rfl rfl) hHeld ?_
    simp only [List.getElem_toArray, List.getElem_cons_succ, List.getElem_cons_zero, Act.put, List.setIfInBounds_toArray, List.set_cons_zero, List.set_cons_succ]
    refine wpAnyH_take (i := 24) (v := .bool true) rfl (by kernel_rfl) (by kernel_rfl) (by kernel_rfl) (fun _ _ _ h => h) (yieldsIf_pick _ _ _ rfl rfl rfl rfl) hHeld ?_
    simp only [List.getElem_toArray, List.getElem_cons_succ, List.getElem_cons_zero, Act.put, List.setIfInBounds_toArray, List.set_cons_zero, List.set_cons_succ]
    refine wpAnyH_take (i := 25) (v := .bool true) rfl (by kernel_rfl) (by kernel_rfl) (by kernel_rfl) (fun _ _ _ h => h) (yieldsIf_move _ rfl rfl rfl) hHeld ?_
    simp only [List.getElem_toArray, List.getElem_cons_succ, List.getElem_cons_zero, Act.put, List.setIfInBounds_toArray, List.set_cons_zero, List.set_cons_succ]
    refine wpAnyH_ready (rs := [26]) (by kernel_rfl) (by simp) (AllReadyH.cons rfl (fun K hK => ?_) AllReadyH.nil)
    have hK' := hid hK
    clear hK
    rw [if_pos (by kernel_rfl)]
    simp only [List.getElem_toArray, List.getElem_cons_succ, List.getElem_cons_zero]
    go_simp
    refine (errNum_any _ _).mono ?_
    rintro e w' ⟨rfl, rfl⟩
    refine hK'.out _ _ (by exact ⟨hH17.out, hJ17.out⟩) (fun hHeld => ?_)
    clear hK' K
    refine wpAnyH_take (i := 27) (v := .bool true) rfl (by kernel_rfl) (by kernel_rfl) (by kernel_rfl) (fun _ _ _ h => h) (.inl ⟨by kernel_rfl, fun w _ => by go_simp⟩) hHeld ?_
    simp only [List.getElem_toArray, List.getElem_cons_succ, List.getElem_cons_zero, Act.put, List.setIfInBounds_toArray, List.set_cons_zero, List.set_cons_succ]
    refine wpAnyH_take (i := 28) (v := .bool true) rfl (by kernel_rfl) (by kernel_rfl) (by kernel_rfl) (fun _ _ _ h => h) (yieldsIf_pick _ _ _ rfl rfl rfl rfl) hHeld ?_
    simp only [List.getElem_toArray, List.getElem_cons_succ, List.getElem_cons_zero, Act.put, List.setIfInBounds_toArray, List.set_cons_zero, List.set_cons_succ]
    refine wpAnyH_take (i := 29) (v := .bool true) rfl (by kernel_rfl) (by kernel_rfl) (by kernel_rfl) (fun _ _ _ h => h) (yieldsIf_assign _ rfl rfl rfl) hHeld ?_
    simp only [List.getElem_toArray, List.getElem_cons_succ, List.getElem_cons_zero, Act.put, List.setIfInBounds_toArray, List.set_cons_zero, List.set_cons_succ]
    refine wpAnyH_done (by kernel_rfl) ?_ _
    go_wp2_with fail
    go_ret
    exact ⟨rfl, hT17.out.b⟩
  · have hK' := hid hK
    clear hK
    have hb10 : Below W9.heap.size W9 (W9.alloc (.cells #[.string ⟨#[120]⟩, .string ⟨#[121]⟩] 9)) := (Below.refl _ _).alloc (Nat.le_refl _) _
    have hX10 := hid (show Texts (W9.alloc (.cells #[.string ⟨#[120]⟩, .string ⟨#[121]⟩] 9)) (W9.alloc (.cells #[.string ⟨#[120]⟩, .string ⟨#[121]⟩] 9)).heap.size (some ⟨W9.heap.size, 0, none⟩) 2 [⟨#[120]⟩, ⟨#[121]⟩] from by rw [World.size_alloc]; exact At.new W9 _ 2 _ _ rfl rfl)
    have hT10 := hid (hT9.out.up hb10)
    have hH10 := hid (hH9.out.below hb10 hH9.out.lt)
    have hJ10 := hid (hJ9.out.below hb10 hJ9.out.lt)
    clear hb10
    rw [if_pos (by kernel_rfl)]
    simp only [List.getElem_toArray, List.getElem_cons_succ, List.getElem_cons_zero]
    go_simp
    refine hK'.out _ _ (by exact ⟨hH10.out, hJ10.out⟩) (fun hHeld => ?_)
    clear hK' K
    refine wpAnyH_ready (rs := [10]) (by kernel_rfl) (by simp) (AllReadyH.cons rfl (fun K hK => ?_) AllReadyH.nil)
    have hK' := hid hK
    clear hK
    rw [if_pos (by kernel_rfl)]
    simp only [List.getElem_toArray, List.getElem_cons_succ, List.getElem_cons_zero]
    go_simp
    refine (hR2.out _ _ _ hT10.out.t).mono ?_
    rintro e W11 ⟨rfl, hb11⟩
    have hT11 := hid (hT10.out.up hb11)
    have hX11 := hid ((hX10.out.below hb11).more hb11.size)
    have hH11 := hid (hH10.out.below hb11 hH10.out.lt)
    have hJ11 := hid (hJ10.out.below hb11 hJ10.out.lt)
    clear hb11
    refine hK'.out _ _ (by exact ⟨hH11.out, hJ11.out⟩) (fun hHeld => ?_)
    clear hK' K
    refine wpAnyH_ready (rs := [12]) (by kernel_rfl) (by simp) (AllReadyH.cons rfl (fun K hK => ?_) AllReadyH.nil)
    have hK' := hid hK
    clear hK
    rw [if_pos (by kernel_rfl)]
    simp only [List.getElem_toArray, List.getElem_cons_succ, List.getElem_cons_zero]
    go_simp
    refine (hM.out _ _ _ hX11.out).mono ?_
    rintro e W15 ⟨rfl, hb15⟩
    have hT15 := hid (hT11.out.up hb15)
    have hH15 := hid (hH11.out.below hb15 hH11.out.lt)
    have hJ15 := hid (hJ11.out.below hb15 hJ11.out.lt)
    clear hb15
    refine hK'.out _ _ (by exact ⟨hH15.out, hJ15.out⟩) (fun hHeld => ?_)
    clear hK' K
    refine wpAnyH_take (i := 13) (v := .bool true) rfl (by kernel_rfl) (by kernel_rfl) (by kernel_rfl) (fun _ _ _ h => h) (yieldsIf_eql C2.out (by kernel_rfl) _ _ _ rfl rfl rfl) hHeld ?_
    simp only [List.getElem_toArray, List.getElem_cons_succ, List.getElem_cons_zero, Act.put, List.setIfInBounds_toArray, List.set_cons_zero, List.set_cons_succ]
    refine wpAnyH_take (i := 14) (v := .bool true) rfl (by kernel_rfl) (by kernel_rfl) (by kernel_rfl) (fun _ _ _ h => h) (yieldsIf_pick _ _ _ rfl rfl rfl rfl) hHeld ?_
    simp only [List.getElem_toArray, List.getElem_cons_succ, List.getElem_cons_zero, Act.put, List.setIfInBounds_toArray, List.set_cons_zero, List.set_cons_succ]
    refine wpAnyH_take (i := 15) (v := .bool true) rfl (by kernel_rfl) (by kernel_rfl) (by kernel_rfl) (fun _ _ _ h => h) (yieldsIf_move _ rfl rfl rfl) hHeld ?_
    simp only [List.getElem_toArray, List.getElem_cons_succ, List.getElem_cons_zero, Act.put, List.setIfInBounds_toArray, List.set_cons_zero, List.set_cons_succ]
    refine wpAnyH_take (i := 16) (v := .pointer (some ⟨w.heap.size, 0, none⟩)) rfl (by kernel_rfl) (by kernel_rfl) (by kernel_rfl) (fun _ _ _ h => h) (.inl ⟨by kernel_rfl, fun w _ => by go_simp⟩) hHeld ?_
    simp only [List.getElem_toArray, List.getElem_cons_succ, List.getElem_cons_zero, Act.put, List.setIfInBounds_toArray, List.set_cons_zero, List.set_cons_succ]
    refine wpAnyH_ready (rs := [17]) (by kernel_rfl) (by simp) (AllReadyH.cons rfl (fun K hK => ?_) AllReadyH.nil)
    have hK' := hid hK
    clear hK
    rw [if_pos (by kernel_rfl)]
    simp only [List.getElem_toArray, List.getElem_cons_succ, List.getElem_cons_zero]
    go_simp
    refine (mSize_any _ _ _ _ hT15.out.t).mono ?_
    rintro e w' ⟨rfl, rfl⟩
    refine hK'.out _ _ (by exact ⟨hH15.out, hJ15.out⟩) (fun hHeld => ?_)
    clear hK' K
    refine wpAnyH_take (i := 18) (v := .bool true) rfl (by kernel_rfl) (by kernel_rfl) (by kernel_rfl) (fun _ _ _ h => h) (.inl ⟨by kernel_rfl, fun w _ => by go_simp⟩) hHeld ?_
    simp only [List.getElem_toArray, List.getElem_cons_succ, List.getElem_cons_zero, Act.put, List.setIfInBounds_toArray, List.set_cons_zero, List.set_cons_succ]
    refine wpAnyH_take (i := 19) (v := .bool true) rfl (by kernel_rfl) (by kernel_rfl) (by kernel_rfl) (fun _ _ _ h => h) (yieldsIf_pick _ _ _ rfl rfl rfl rfl) hHeld ?_
    simp only [List.getElem_toArray, List.getElem_cons_succ, List.getElem_cons_zero, Act.put, List.setIfInBounds_toArray, List.set_cons_zero, List.set_cons_succ]
    refine wpAnyH_take (i := 20) (v := .bool true) rfl (by kernel_rfl) (by kernel_rfl) (by kernel_rfl) (fun _ _ _ h => h) (yieldsIf_move _ rfl rfl rfl) hHeld ?_
    simp only [List.getElem_toArray, List.getElem_cons_succ, List.getElem_cons_zero, Act.put, List.setIfInBounds_toArray, List.set_cons_zero, List.set_cons_succ]
    refine wpAnyH_ready (rs := [21]) (by kernel_rfl) (by simp) (AllReadyH.cons rfl (fun K hK => ?_) AllReadyH.nil)
    have hK' := hid hK
    clear hK
    rw [if_pos (by kernel_rfl)]
    simp only [List.getElem_toArray, List.getElem_cons_succ, List.getElem_cons_zero]
    go_simp
    refine (hlx.out _).mono ?_
    rintro e W16 ⟨rfl, hb16⟩
    have hT16 := hid (hT15.out.up hb16)
    have hH16 := hid (hH15.out.below hb16 hH15.out.lt)
    have hJ16 := hid (hJ15.out.below hb16 hJ15.out.lt)
    clear hb16
    refine hK'.out _ _ (by exact ⟨hH16.out, hJ16.out⟩) (fun hHeld => ?_)
    clear hK' K
    refine wpAnyH_ready (rs := [22]) (by kernel_rfl) (by simp) (AllReadyH.cons rfl (fun K hK => ?_) AllReadyH.nil)
    have hK' := hid hK
    clear hK
    rw [if_pos (by kernel_rfl)]
    simp only [List.getElem_toArray, List.getElem_cons_succ, List.getElem_cons_zero]
    go_simp
    refine (hsx.out _).mono ?_
    rintro e W17 ⟨rfl, hb17⟩
    have hT17 := hid (hT16.out.up hb17)
    have hH17 := hid (hH16.out.below hb17 hH16.out.lt)
    have hJ17 := hid (hJ16.out.below hb17 hJ16.out.lt)
    clear hb17
    refine hK'.out _ _ (by exact ⟨hH17.out, hJ17.out⟩) (fun hHeld => ?_)
    clear hK' K
    refine wpAnyH_take (i := 23) (v := .bool true) rfl (by kernel_rfl) (by kernel_rfl) (by kernel_rfl) (fun _ _ _ h => h) (yieldsIf_eql C1.out (by kernel_rfl) _ _ _ rfl rfl rfl) hHeld ?_
    simp only [List.getElem_toArray, List.getElem_cons_succ, List.getElem_cons_zero, Act.put, List.setIfInBounds_toArray, List.set_cons_zero, List.set_cons_succ]
    refine wpAnyH_take (i := 24) (v := .bool true) rfl (by kernel_rfl) (by kernel_rfl) (by kernel_rfl) (fun _ _ _ h => h) (yieldsIf_pick _ _ _ rfl rfl rfl rfl) hHeld ?_
    simp only [List.getElem_toArray, List.getElem_cons_succ, List.getElem_cons_zero, Act.put, List.setIfInBounds_toArray, List.set_cons_zero, List.set_cons_succ]
    refine wpAnyH_take (i := 25) (v := .bool true) rfl (by kernel_rfl) (by kernel_rfl) (by kernel_rfl) (fun _ _ _ h => h) (yieldsIf_move _ rfl rfl rfl) hHeld ?_
    simp only [List.getElem_toArray, List.getElem_cons_succ, List.getElem_cons_zero, Act.put, List.setIfInBounds_toArray, List.set_cons_zero, List.set_cons_succ]
    refine wpAnyH_ready (rs := [26]) (by kernel_rfl) (by simp) (AllReadyH.cons rfl (fun K hK => ?_) AllReadyH.nil)
    have hK' := hid hK
    clear hK
    rw [if_pos (by kernel_rfl)]
    simp only [List.getElem_toArray, List.getElem_cons_succ, List.getElem_cons_zero]
    go_simp
    refine (errNum_any _ _).mono ?_
    rintro e w' ⟨rfl, rfl⟩
    refine hK'.out _ _ (by exact ⟨hH17.out, hJ17.out⟩) (fun hHeld => ?_)
    clear hK' K
    refine wpAnyH_take (i := 27) (v := .bool true) rfl (by kernel_rfl) (by kernel_rfl) (by kernel_rfl) (fun _ _ _ h => h) (.inl ⟨by kernel_rfl, fun w _ => by go_simp⟩) hHeld ?_
    simp only [List.getElem_toArray, List.getElem_cons_succ, List.getElem_cons_zero, Act.put, List.setIfInBounds_toArray, List.set_cons_zero, List.set_cons_succ]
    refine wpAnyH_take (i := 28) (v := .bool true) rfl (by kernel_rfl) (by kernel_rfl) (by kernel_rfl) (fun _ _ _ h => h) (yieldsIf_pick _ _ _ rfl rfl rfl rfl) hHeld ?_
    simp only [List.getElem_toArray, List.getElem_cons_succ, List.getElem_cons_zero, Act.put, List.setIfInBounds_toArray, List.set_cons_zero, List.set_cons_succ]
    refine wpAnyH_take (i := 29) (v := .bool true) rfl (by kernel_rfl) (by kernel_rfl) (by kernel_rfl) (fun _ _ _ h => h) (yieldsIf_assign _ rfl rfl rfl) hHeld ?_
    simp only [List.getElem_toArray, List.getElem_cons_succ, List.getElem_cons_zero, Act.put, List.setIfInBounds_toArray, List.set_cons_zero, List.set_cons_succ]
    refine wpAnyH_done (by kernel_rfl) ?_ _
    go_wp2_with fail
    go_ret
    exact ⟨rfl, hT17.out.b⟩

end Go.Proofs.Ytenfhmpjhbpkpaa
