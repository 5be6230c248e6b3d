/- Layer 7, the program's side: a disk's Write. -/
import Derived.Test.YtbclmkpigdeilaaDkB
namespace Go.Proofs.Ytbclmkpigdeilaa
open Go.RowKit
open Go.Lib (strCells strCells_length strCells_oneCell)

theorem bup {a b c : World} (h : Below b.heap.size b c) (k : Below a.heap.size a b) : Below a.heap.size a c := k.trans (h.mono k.size)
theorem tr_up {w a b : World} {g : Nat} {r : Option Nat} (hb : Below a.heap.size a b) (h : Turns w a g r) : Turns w b g r := h.trans (.inl rfl) (Turns.of_below hb _ _)
theorem tr_on {w a b : World} {g : Nat} {r : Option Nat} (h : Turns w a g r) (k : Turns a b g r) : Turns w b g r := h.trans (.inl rfl) k

theorem below_store {a w W : World} {B b o : Nat} {vs : List Value} (h : Below B a w) (hb : B ≤ b) (e : w.setCells b o vs = W) : Below B a W := by
  subst e
  exact below_setCells h b o vs hb
/-- From the head of block g on stand a text's bytes. -/
def BytesAt (w : World) (g : Nat) (s : ByteArray) : Prop := g < w.heap.size ∧ ∀ j u, (strCells s)[j]? = some u → w.cell? ((⟨g, 0, none⟩ : Addr).add j) = some u
theorem BytesAt.on {w w' : World} {g : Nat} {s : ByteArray} (h : BytesAt w g s) (hb : Below w.heap.size w w') : BytesAt w' g s :=
  ⟨Nat.lt_of_lt_of_le h.1 hb.size, fun j u hu => (hb.cell (by rw [add_block]; exact h.1)).trans (h.2 j u hu)⟩
/-- '[]byte(s)'. -/
theorem run_bytes_at {P : Program} (w : World) (src dst e : TypeId) (s : ByteArray) (hs : P.underlying src = some .string) (hd : P.underlying dst = some (.slice e)) (he : P.underlying e = some (.int .u8)) :
    ∃ c w', (convert src dst (.string s)).run P w = .ok (.slice (some ⟨w.heap.size, 0, none⟩) s.size c) w' ∧ BytesAt w' w.heap.size s ∧ Below w.heap.size w w' := by
  refine ⟨_, _, run_bytes_of_string (P := P) w src dst e s hs hd he, ⟨by simp, fun j u hu => ?_⟩, ((Below.refl _ _).drew).alloc (Nat.le_refl _) _⟩
  have hadd : (⟨w.heap.size, 0, none⟩ : Addr).add j = ⟨w.heap.size, j, none⟩ := by unfold Addr.add; split <;> simp_all
  have h2 : (bytesRow s (grownCap w s.size 0 e)).toList = strCells s ++ List.replicate (grownCap w s.size 0 e - s.size) (.int .u8 0) := by
    unfold bytesRow strCells
    simp
  rw [hadd, cell_of_row _ w.heap.size j _ e _ (heap_alloc_new w.drew _), ← Array.getElem?_toList, h2, List.getElem?_append_left (List.getElem?_eq_some_iff.1 hu).1]
  exact hu
theorem wp_conv {P : Program} {o : Oper} {a : Act} {w : World} {K : Act → World → Prop} {Q : Exit → Act → World → Prop} (src dst : TypeId) (x : Operand) (ho : o.op = .convert src dst x) (v u : Value) (w' : World) (hx : a.eval x = v) (hrun : (convert src dst v).run P w = .ok u w')
    (h : K (a.put o.dst u) w') : o.wp P a w K Q :=
  wp_run' u w' (by unfold execOp; simp only [ho, hx, Sem.run_bind, hrun, Result.andThen_ok, Sem.run_pure]) h

theorem wp_load_any {P : Program} {o : Oper} {a : Act} {w : World} {K : Act → World → Prop} {Q : Exit → Act → World → Prop} (ty : TypeId) (x : Operand) (ho : o.op = .load ty x) (p : Addr) (hx : a.eval x = .pointer (some p)) (cs : List Value) (d : TypeDesc)
    (hc : ∀ j v, cs[j]? = some v → w.cell? (p.add j) = some v) (hu : P.underlying ty = some d) (hd : d.isRow = true) (hi : (P.info? ty).map (·.size) = some cs.length) (h : K (a.put o.dst (.agg cs.toArray)) w) : o.wp P a w K Q :=
  wp_run' _ _ (by
    unfold execOp
    simp only [ho, hx, Instr.loadAt, Instr.sureAddr, Sem.run_bind, Sem.run_pure, Result.andThen_ok, run_loadVar_any p ty cs d hc hu hd hi]) h

set_option maxRecDepth 100000 in
theorem dkWrite_no (at_ : Int) (s : ByteArray) (d r b n : Nat) (D : Dk) (h : ¬ (0 ≤ at_ ∧ at_ < (n : Int))) (w : World) (hD : DiskAt w d r b n D) : Calls Try.prog 32 #[.pointer (some ⟨d, 0, none⟩), .int .i64 at_, .string s] w fun e w' => e = .returned (.int .i64 700) ∧ w = w' := by
  have hh := dkHas false at_ d r b n D (decide_eq_false h).symm w hD
  clear hD h
  go_enter Try.func32, Try.ntmps32
  go_wp2_with (first
    | (go_at_call 59; refine hh.mono ?_; rintro e w' ⟨rfl, rfl⟩)
    | fail)
  go_ret
  exact ⟨rfl, rfl⟩
set_option maxRecDepth 100000 in
theorem dkWrite_not (k : Nat) (s : ByteArray) (hs : s.size ≠ 64) (d r b n : Nat) (D : Dk) (h : k < n) (w : World) (hD : DiskAt w d r b n D) : Calls Try.prog 32 #[.pointer (some ⟨d, 0, none⟩), .int .i64 (k : Int), .string s] w fun e w' => e = .returned (.int .i64 700) ∧ w = w' := by
  have hh := dkHas true (k : Int) d r b n D (decide_eq_true ⟨by omega, by omega⟩).symm w hD
  have h3 : ((s.size : Int) == 64) = false := beq_eq_false_iff_ne.2 (by omega)
  have h4 : ((s.size : Int) != 64) = true := by rw [bne, h3]; rfl
  clear hD h hs
  go_enter Try.func32, Try.ntmps32
  go_wp2_with (first
    | (go_at_call 59; refine hh.mono ?_; rintro e w' ⟨rfl, rfl⟩)
    | fail)
  go_ret
  exact ⟨rfl, rfl⟩

set_option maxRecDepth 100000 in
set_option maxHeartbeats 1000000 in
theorem dkWrite_yes (k : Nat) (s : ByteArray) (hs : s.size = 64) (d r b n : Nat) (D : Dk) (h : k < n) (w : World) (hD : DiskAt w d r b n D) : Calls Try.prog 32 #[.pointer (some ⟨d, 0, none⟩), .int .i64 (k : Int), .string s] w fun e w' => e = .returned (.int .i64 0) ∧ DiskAt w' d r b n (D.write k s) ∧ Turns w w' r (some b) := by
  have hh := hid (dkHas true (k : Int) d r b n D (decide_eq_true ⟨by omega, by omega⟩).symm w hD)
  have h2 : (k : Int) < (n : Int) := by omega
  have s3 : (0 : Int) ≤ (k : Int) := by omega
  have hs' : (s.size : Int) = 64 := by omega
  have hsz := hid hs
  have hkn := hid h
  obtain ⟨x, hx⟩ : ∃ x, D.xs.getD k ⟨#[]⟩ = x := ⟨_, rfl⟩
  have hx64 := hid (show x.size = 64 from by rw [← hx]; exact hD.fine.get h)
  have hx' := hid hx
  obtain ⟨y, hy⟩ : ∃ y, (oldGet D.old k).getD (zeroS 64) = y := ⟨_, rfl⟩
  have hy64 := hid (show y.size = 64 from by
    rw [← hy]
    cases hg : oldGet D.old k with
    | none => exact zeroS_size 64
    | some o => exact hD.fine.ok.len _ (oldGet_mem hg))
  have hA0 := hid hD
  have hT0 := hid (Turns.refl w r (some b))
  have hlk := hD.look h true
  simp only [if_true] at hlk
  rw [hy] at hlk
  have c1 := hD.own.cK 1 _ rfl
  have hsec := hid (fun V old (h2 : DiskAt V d r b n ⟨D.xs, old⟩) => show ∀ j v, (strCells x)[j]? = some v → V.cell? ((⟨r, k * 64, none⟩ : Addr).add j) = some v from by rw [← hx]; exact h2.sec h)
  obtain ⟨W0, hW0⟩ : ∃ V, V = w := ⟨_, rfl⟩
  clear hD hy hx h hs
  cases hd : dirt D.old k with
  | true =>
    have hd' := hid hd
    rw [hd] at hlk
    clear hd
    rw [← hW0] at hA0 hT0 hlk c1 hh ⊢
    clear hW0
    go_enter Try.func32, Try.ntmps32
    go_wp2_with (first
      | (go_at_call 59; refine hh.out.mono ?_; rintro e w' ⟨rfl, rfl⟩)
      | ((with_reducible refine at_slot (some 7) ?_); refine wpList_run rfl (.pointer (some ⟨W0.heap.size, 0, none⟩)) (W0.alloc (.cells z64 121)) (by kernel_rfl) ?_)
      | ((with_reducible refine at_slot none ?_); refine wpList_store_mid rfl 121 (.tmp 7) (.tmp 27) rfl W0.heap.size 0 (strCells y).toArray rfl rfl (by exact (Holds.new W0 121 z64).there 0 _ (by rw [List.size_toArray, strCells_length, hy64.out]; exact Nat.le_refl 64)) (by exact secSizeA y hy64.out) (by exact secOne y) ?_; generalize hW : World.setCells _ _ _ _ = W1; have hb := below_store ((Below.refl _ _).alloc (Nat.le_refl _) _) (Nat.le_refl _) hW; have hA1 := hid (hA0.out.on hb); have hT1 := hid (tr_up hb hT0.out); clear hb hW hA0 hT0 hlk c1)
      | fail)
    clear hh
    go_wp2_with fail
    have hg := hA1.out.lt
    obtain ⟨g, hg'⟩ : ∃ g, W1.drew.heap.size = g := ⟨_, rfl⟩
    have hgn := hid (show d < g ∧ r < g ∧ b < g from by rw [← hg']; exact hg)
    clear hg
    have hb : Below W1.heap.size W1 W1.drew := (Below.refl _ _).drew
    have hA2 := hid (hA1.out.on hb)
    have hT2 := hid (tr_up hb hT1.out)
    clear hb hA1 hT1
    refine wp_region_held_drew (S := fun V => (V.cell? ⟨d, 0, none⟩ = some (.slice (some ⟨r, 0, none⟩) n n))) (by kernel_rfl) (by exact hA2.out.own.cK 0 _ rfl) (fun hHeld => ?_)
    generalize W1.drew = W2 at *
    refine tkn 0 (.pointer (some ⟨d, 0, none⟩)) rfl (by kernel_rfl) (fun _ _ _ h => h) (yieldsIf_move _ rfl rfl rfl) hHeld ?_
    simp only [ly, Act.put]
    refine tkn 1 (.pointer (some ⟨d, 0, none⟩)) rfl (by kernel_rfl) (fun _ _ _ h => h) (.inl ⟨by kernel_rfl, fun w _ => by go_simp⟩) hHeld ?_
    simp only [ly, Act.put]
    refine tkn 2 (.pointer (some ⟨d, 0, none⟩)) rfl (by kernel_rfl) (fun _ _ _ h => h) (.inl ⟨by kernel_rfl, fun w _ => by go_simp⟩) hHeld ?_
    simp only [ly, Act.put]
    refine tkn 3 (.slice (some ⟨r, 0, none⟩) n n) rfl (by kernel_rfl) (fun _ _ _ h => h) (.inl ⟨by kernel_rfl, fun V hS => by have c0 := hS; go_simp⟩) hHeld ?_
    simp only [ly, Act.put]
    refine tkn 4 (.int .i64 (k : Int)) rfl (by kernel_rfl) (fun _ _ _ h => h) (yieldsIf_move _ rfl rfl rfl) hHeld ?_
    simp only [ly, Act.put]
    refine tkn 5 (.string s) rfl (by kernel_rfl) (fun _ _ _ h => h) (yieldsIf_move _ rfl rfl rfl) hHeld ?_
    simp only [ly, Act.put]
    refine wpAnyH_ready (rs := [6]) (by kernel_rfl) (by simp) (AllReadyH.cons rfl (fun K hK => ?_) AllReadyH.nil)
    have hK' := hid hK
    clear hK
    rw [if_pos (by kernel_rfl)]
    simp only [ly1, ly2, ly3]
    obtain ⟨c, W3, hr, hN, hb⟩ := run_bytes_at (P := Try.prog) W2 9 51 5 s Try.underlying9 Try.underlying51 Try.underlying5
    rw [hsz.out, hg'] at hr
    rw [hg'] at hN
    refine wp_conv 9 51 (.tmp 48) rfl (.string s) _ _ rfl (by exact hr) ?_
    clear hr hg'
    have hA3 := hid (hA2.out.on hb)
    have hT3 := hid (tr_up hb hT2.out)
    have hN3 := hid hN
    clear hb hA2 hT2 hN
    refine hK'.out _ _ (by exact hA3.out.own.cK 0 _ rfl) (fun hHeld => ?_)
    clear hK' K
    refine tkn 7 (.pointer (some ⟨g, 0, none⟩)) rfl (by kernel_rfl) (fun _ _ _ h => h) (.inl ⟨by kernel_rfl, fun w _ => by have ar := run_arrayAt (P := Try.prog) 121 5 (some ⟨g, 0, none⟩) 64 64 c (Nat.le_refl 64) Try.underlying121 w; go_simp⟩) hHeld ?_
    simp only [ly, Act.put]
    refine wpAnyH_ready (rs := [8]) (by kernel_rfl) (by simp) (AllReadyH.cons rfl (fun K hK => ?_) AllReadyH.nil)
    have hK' := hid hK
    clear hK
    rw [if_pos (by kernel_rfl)]
    simp only [ly1, ly2, ly3]
    refine wp_load_any 121 (.tmp 50) rfl ⟨g, 0, none⟩ rfl (strCells s) _ (by exact hN3.out.2) Try.underlying121 rfl (by exact secSize s hsz.out) ?_
    refine hK'.out _ _ (by exact hA3.out.own.cK 0 _ rfl) (fun hHeld => ?_)
    clear hK' K
    refine tkn 9 (.pointer (some ⟨r, k * 64, none⟩)) rfl (by kernel_rfl) (fun _ _ _ h => h) (.inl ⟨by kernel_rfl, fun w _ => by go_simp⟩) hHeld ?_
    simp only [ly, Act.put]
    refine wpAnyH_ready (rs := [10]) (by kernel_rfl) (by simp) (AllReadyH.cons rfl (fun K hK => ?_) AllReadyH.nil)
    have hK' := hid hK
    clear hK
    rw [if_pos (by kernel_rfl)]
    simp only [ly1, ly2, ly3]
    refine wp_store_mid _ _ _ rfl r (k * 64) (strCells s).toArray rfl rfl (by exact hA3.out.row.there _ _ (by rw [secCells_length _ hA3.out.fine.secs, List.size_toArray, strCells_length, hsz.out, hA3.out.fine.len]; have := hkn.out; omega)) (by exact secSizeA s hsz.out) (by exact secOne s) ?_
    generalize hXx : World.setCells _ _ _ _ = W4
    have hh := hA3.out.store hkn.out hsz.out hXx
    have hA4 := hid hh.1
    have hT4 := hid (tr_on hT3.out hh.2)
    clear hh hXx hA3 hT3 hN3
    refine hK'.out _ _ (by exact hA4.out.own.cK 0 _ rfl) (fun hHeld => ?_)
    clear hK' K
    refine wpAnyH_done (by kernel_rfl) ?_ _
    go_wp2_with fail
    go_ret
    have hA := hA4.out
    have hT := hT4.out
    refine ⟨rfl, ?_, hT⟩
    unfold Dk.write
    rw [hd'.out]
    exact hA
  | false =>
    have hd' := hid hd
    rw [hd] at hlk
    clear hd
    rw [← hW0] at hA0 hT0 hlk c1 hh ⊢
    clear hW0
    go_enter Try.func32, Try.ntmps32
    go_wp2_with (first
      | (go_at_call 59; refine hh.out.mono ?_; rintro e w' ⟨rfl, rfl⟩)
      | ((with_reducible refine at_slot (some 7) ?_); refine wpList_run rfl (.pointer (some ⟨W0.heap.size, 0, none⟩)) (W0.alloc (.cells z64 121)) (by kernel_rfl) ?_)
      | ((with_reducible refine at_slot none ?_); refine wpList_store_mid rfl 121 (.tmp 7) (.tmp 27) rfl W0.heap.size 0 (strCells y).toArray rfl rfl (by exact (Holds.new W0 121 z64).there 0 _ (by rw [List.size_toArray, strCells_length, hy64.out]; exact Nat.le_refl 64)) (by exact secSizeA y hy64.out) (by exact secOne y) ?_; generalize hW : World.setCells _ _ _ _ = W1; have hb := below_store ((Below.refl _ _).alloc (Nat.le_refl _) _) (Nat.le_refl _) hW; have hA1 := hid (hA0.out.on hb); have hT1 := hid (tr_up hb hT0.out); clear hb hW hA0 hT0 hlk c1)
      | fail)
    clear hh
    have hb : Below W1.heap.size W1 W1.drew := (Below.refl _ _).drew
    have hA2 := hid (hA1.out.on hb)
    have hT2 := hid (tr_up hb hT1.out)
    clear hb hA1 hT1
    refine wp_region_held_drew (S := fun V => (V.cell? ⟨d, 0, none⟩ = some (.slice (some ⟨r, 0, none⟩) n n) ∧ V.cell? ⟨d, 1, none⟩ = some (.map (some b))) ∧ ∀ j v, (strCells x)[j]? = some v → V.cell? ((⟨r, k * 64, none⟩ : Addr).add j) = some v) (by kernel_rfl) (by exact ⟨⟨hA2.out.own.cK 0 _ rfl, hA2.out.own.cK 1 _ rfl⟩, hsec.out _ _ hA2.out⟩) (fun hHeld => ?_)
    generalize W1.drew = W2 at *
    refine tkn 0 (.pointer (some ⟨d, 0, none⟩)) rfl (by kernel_rfl) (fun _ _ _ h => h) (yieldsIf_move _ rfl rfl rfl) hHeld ?_
    simp only [ly, Act.put]
    refine tkn 1 (.pointer (some ⟨d, 0, none⟩)) rfl (by kernel_rfl) (fun _ _ _ h => h) (.inl ⟨by kernel_rfl, fun w _ => by go_simp⟩) hHeld ?_
    simp only [ly, Act.put]
    refine tkn 2 (.pointer (some ⟨d, 1, none⟩)) rfl (by kernel_rfl) (fun _ _ _ h => h) (.inl ⟨by kernel_rfl, fun w _ => by go_simp⟩) hHeld ?_
    simp only [ly, Act.put]
    refine tkn 3 (.map (some b)) rfl (by kernel_rfl) (fun _ _ _ h => h) (.inl ⟨by kernel_rfl, fun V hS => by have c1 := hS.1.2; go_simp⟩) hHeld ?_
    simp only [ly, Act.put]
    refine tkn 4 (.int .i64 (k : Int)) rfl (by kernel_rfl) (fun _ _ _ h => h) (yieldsIf_move _ rfl rfl rfl) hHeld ?_
    simp only [ly, Act.put]
    refine tkn 5 (.pointer (some ⟨d, 0, none⟩)) rfl (by kernel_rfl) (fun _ _ _ h => h) (yieldsIf_move _ rfl rfl rfl) hHeld ?_
    simp only [ly, Act.put]
    refine tkn 6 (.pointer (some ⟨d, 0, none⟩)) rfl (by kernel_rfl) (fun _ _ _ h => h) (.inl ⟨by kernel_rfl, fun w _ => by go_simp⟩) hHeld ?_
    simp only [ly, Act.put]
    refine tkn 7 (.pointer (some ⟨d, 0, none⟩)) rfl (by kernel_rfl) (fun _ _ _ h => h) (.inl ⟨by kernel_rfl, fun w _ => by go_simp⟩) hHeld ?_
    simp only [ly, Act.put]
    refine tkn 8 (.slice (some ⟨r, 0, none⟩) n n) rfl (by kernel_rfl) (fun _ _ _ h => h) (.inl ⟨by kernel_rfl, fun V hS => by have c0 := hS.1.1; go_simp⟩) hHeld ?_
    simp only [ly, Act.put]
    refine tkn 9 (.int .i64 (k : Int)) rfl (by kernel_rfl) (fun _ _ _ h => h) (yieldsIf_move _ rfl rfl rfl) hHeld ?_
    simp only [ly, Act.put]
    refine tkn 10 (.pointer (some ⟨r, k * 64, none⟩)) rfl (by kernel_rfl) (fun _ _ _ h => h) (.inl ⟨by kernel_rfl, fun w _ => by go_simp⟩) hHeld ?_
    simp only [ly, Act.put]
    refine tkn 11 (.agg (strCells x).toArray) rfl (by kernel_rfl) (fun _ _ _ h => h) (yieldsIf_load_any (by kernel_rfl) _ _ rfl ⟨r, k * 64, none⟩ rfl (strCells x) _ (fun V hS => hS.2) Try.underlying121 rfl (by exact secSize x hx64.out)) hHeld ?_
    simp only [ly, Act.put]
    refine wpAnyH_ready (rs := [12]) (by kernel_rfl) (by simp) (AllReadyH.cons rfl (fun K hK => ?_) AllReadyH.nil)
    have hK' := hid hK
    clear hK
    rw [if_pos (by kernel_rfl)]
    simp only [ly1, ly2, ly3]
    obtain ⟨W3, hr, hA, hT⟩ := hA2.out.hold hkn.out hd'.out
    rw [hx'.out] at hr hA
    refine wp_mapPut (.tmp 34) (.tmp 35) (.tmp 42) _ rfl (.map (some b)) (.int .i64 (k : Int)) (.agg (strCells x).toArray) rfl rfl rfl (by exact hr) ?_
    have hA3 := hid hA
    have hT3 := hid (tr_on hT2.out hT)
    clear hr hA hT hA2 hT2
    refine hK'.out _ _ (by exact ⟨⟨hA3.out.own.cK 0 _ rfl, hA3.out.own.cK 1 _ rfl⟩, hsec.out _ _ hA3.out⟩) (fun hHeld => ?_)
    clear hK' K
    refine wpAnyH_done (by kernel_rfl) ?_ _
    go_wp2_with fail
    have hg := hA3.out.lt
    obtain ⟨g, hg'⟩ : ∃ g, W3.drew.heap.size = g := ⟨_, rfl⟩
    have hgn := hid (show d < g ∧ r < g ∧ b < g from by rw [← hg']; exact hg)
    clear hg
    have hb : Below W3.heap.size W3 W3.drew := (Below.refl _ _).drew
    have hA4 := hid (hA3.out.on hb)
    have hT4 := hid (tr_up hb hT3.out)
    clear hb hA3 hT3
    refine wp_region_held_drew (S := fun V => (V.cell? ⟨d, 0, none⟩ = some (.slice (some ⟨r, 0, none⟩) n n))) (by kernel_rfl) (by exact hA4.out.own.cK 0 _ rfl) (fun hHeld => ?_)
    generalize W3.drew = W4 at *
    refine tkn 0 (.pointer (some ⟨d, 0, none⟩)) rfl (by kernel_rfl) (fun _ _ _ h => h) (yieldsIf_move _ rfl rfl rfl) hHeld ?_
    simp only [ly, Act.put]
    refine tkn 1 (.pointer (some ⟨d, 0, none⟩)) rfl (by kernel_rfl) (fun _ _ _ h => h) (.inl ⟨by kernel_rfl, fun w _ => by go_simp⟩) hHeld ?_
    simp only [ly, Act.put]
    refine tkn 2 (.pointer (some ⟨d, 0, none⟩)) rfl (by kernel_rfl) (fun _ _ _ h => h) (.inl ⟨by kernel_rfl, fun w _ => by go_simp⟩) hHeld ?_
    simp only [ly, Act.put]
    refine tkn 3 (.slice (some ⟨r, 0, none⟩) n n) rfl (by kernel_rfl) (fun _ _ _ h => h) (.inl ⟨by kernel_rfl, fun V hS => by have c0 := hS; go_simp⟩) hHeld ?_
    simp only [ly, Act.put]
    refine tkn 4 (.int .i64 (k : Int)) rfl (by kernel_rfl) (fun _ _ _ h => h) (yieldsIf_move _ rfl rfl rfl) hHeld ?_
    simp only [ly, Act.put]
    refine tkn 5 (.string s) rfl (by kernel_rfl) (fun _ _ _ h => h) (yieldsIf_move _ rfl rfl rfl) hHeld ?_
    simp only [ly, Act.put]
    refine wpAnyH_ready (rs := [6]) (by kernel_rfl) (by simp) (AllReadyH.cons rfl (fun K hK => ?_) AllReadyH.nil)
    have hK' := hid hK
    clear hK
    rw [if_pos (by kernel_rfl)]
    simp only [ly1, ly2, ly3]
    obtain ⟨c, W5, hr, hN, hb⟩ := run_bytes_at (P := Try.prog) W4 9 51 5 s Try.underlying9 Try.underlying51 Try.underlying5
    rw [hsz.out, hg'] at hr
    rw [hg'] at hN
    refine wp_conv 9 51 (.tmp 48) rfl (.string s) _ _ rfl (by exact hr) ?_
    clear hr hg'
    have hA5 := hid (hA4.out.on hb)
    have hT5 := hid (tr_up hb hT4.out)
    have hN5 := hid hN
    clear hb hA4 hT4 hN
    refine hK'.out _ _ (by exact hA5.out.own.cK 0 _ rfl) (fun hHeld => ?_)
    clear hK' K
    refine tkn 7 (.pointer (some ⟨g, 0, none⟩)) rfl (by kernel_rfl) (fun _ _ _ h => h) (.inl ⟨by kernel_rfl, fun w _ => by have ar := run_arrayAt (P := Try.prog) 121 5 (some ⟨g, 0, none⟩) 64 64 c (Nat.le_refl 64) Try.underlying121 w; go_simp⟩) hHeld ?_
    simp only [ly, Act.put]
    refine wpAnyH_ready (rs := [8]) (by kernel_rfl) (by simp) (AllReadyH.cons rfl (fun K hK => ?_) AllReadyH.nil)
    have hK' := hid hK
    clear hK
    rw [if_pos (by kernel_rfl)]
    simp only [ly1, ly2, ly3]
    refine wp_load_any 121 (.tmp 50) rfl ⟨g, 0, none⟩ rfl (strCells s) _ (by exact hN5.out.2) Try.underlying121 rfl (by exact secSize s hsz.out) ?_
    refine hK'.out _ _ (by exact hA5.out.own.cK 0 _ rfl) (fun hHeld => ?_)
    clear hK' K
    refine tkn 9 (.pointer (some ⟨r, k * 64, none⟩)) rfl (by kernel_rfl) (fun _ _ _ h => h) (.inl ⟨by kernel_rfl, fun w _ => by go_simp⟩) hHeld ?_
    simp only [ly, Act.put]
    refine wpAnyH_ready (rs := [10]) (by kernel_rfl) (by simp) (AllReadyH.cons rfl (fun K hK => ?_) AllReadyH.nil)
    have hK' := hid hK
    clear hK
    rw [if_pos (by kernel_rfl)]
    simp only [ly1, ly2, ly3]
    refine wp_store_mid _ _ _ rfl r (k * 64) (strCells s).toArray rfl rfl (by exact hA5.out.row.there _ _ (by rw [secCells_length _ hA5.out.fine.secs, List.size_toArray, strCells_length, hsz.out, hA5.out.fine.len]; have := hkn.out; omega)) (by exact secSizeA s hsz.out) (by exact secOne s) ?_
    generalize hXx : World.setCells _ _ _ _ = W6
    have hh := hA5.out.store hkn.out hsz.out hXx
    have hA6 := hid hh.1
    have hT6 := hid (tr_on hT5.out hh.2)
    clear hh hXx hA5 hT5 hN5
    refine hK'.out _ _ (by exact hA6.out.own.cK 0 _ rfl) (fun hHeld => ?_)
    clear hK' K
    refine wpAnyH_done (by kernel_rfl) ?_ _
    go_wp2_with fail
    go_ret
    have hA := hA6.out
    have hT := hT6.out
    refine ⟨rfl, ?_, hT⟩
    unfold Dk.write
    rw [hd'.out, hx'.out]
    exact hA


end Go.Proofs.Ytbclmkpigdeilaa
