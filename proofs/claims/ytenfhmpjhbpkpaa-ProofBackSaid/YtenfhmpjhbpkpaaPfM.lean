/- Layer 10, the program's side: CheckConsistency. -/
import Derived.Test.YtenfhmpjhbpkpaaPfK
namespace Go.Proofs.Ytenfhmpjhbpkpaa
open Go.RowKit Go.Shelf
open Go.Lib (strCells strCells_length strCells_oneCell)
attribute [local irreducible] Sha.compress Sha.blocks Sha.sha Sha.pad
attribute [local go_sem] Oper.semAt_some

section
variable {ops : Array Oper} {rest : List Oper} {o : Oper} {a : Act} {w : World} {Q : Exit → Act → World → Prop}
theorem wpList_hneq_on (hw : Region.wanted o (yielded ops a.tmps) = true) (x y : Operand) (ty : TypeId) (ho : o.op = .binOp .neq 28 x y ty) (C D : List UInt8) (hC : C.length = 32) (hD : D.length = 32) (hx : a.eval x = .agg (byteCells C).toArray) (hy : a.eval y = .agg (byteCells D).toArray)
    (h : wpList Try.prog ops Q rest (a.put o.dst (.bool (!(C == D)))) w) : wpList Try.prog ops Q (o :: rest) a w :=
  wpList_step fun _ hK => by
    rw [if_pos hw]
    refine wp_run (.bool (!(C == D))) w ?_ (hK _ _ h)
    have hg : ∀ x y W, (eqGuard .neq 28 x y (.agg (byteCells C).toArray) (.agg (byteCells D).toArray)).run Try.prog W = .ok () W := fun x y W => hv_guard .neq x y C D W
    simp only [execOp, ho, hx, hy, Sem.run_bind, hg, hv_neq2 C D hC hD, Result.andThen_ok, Sem.run_pure]
end

theorem grown_put {W W7 W8 : World} {g : Nat} {cs : List Value} (hb : Below W.heap.size W W7) (e : W7.setCells g 0 cs = W8) : W.grownBy W8 (some g) := by
  subst e
  have hbq := below_setCells (Below.refl g W7) g 0 cs (Nat.le_refl _)
  exact ⟨hbq.os.trans hb.os, hbq.tape.trans hb.tape, hbq.output.trans hb.output, Nat.le_trans hb.size hbq.size, fun k hk hne => (cells_far _ _ _ _ _ (fun e => hne (by rw [e]))).trans (hb.block k hk)⟩

theorem Hashs.none0 (w : World) (B : Nat) (A : Option Addr) : Hashs w B A 0 [] := ⟨⟨rfl, .inl rfl⟩, fun x hx => by cases hx⟩

theorem Hashs.tail {w : World} {B n : Nat} {p : Addr} {x : List UInt8} {l : List (List UInt8)} (h : Hashs w B (some p) (n + 1) (x :: l)) (hn : 1 ≤ n) : Hashs w B (some (p.add 32)) n l := by
  have hl := h.len
  have h32 : ∀ y ∈ l, y.length = 32 := fun y hy => h.2 y (List.mem_cons_of_mem _ hy)
  have hx : (byteCells x).length = 32 := by rw [byteCells, List.length_map]; exact h.2 x (List.mem_cons_self ..)
  have e : hashCells (x :: l) = byteCells x ++ hashCells l := rfl
  refine ⟨⟨by rw [hashCells_length l h32]; simp at hl; omega, ?_⟩, h32⟩
  rcases h.1.2 with h0 | ⟨q, hq, hB, hc⟩
  · omega
  · cases hq
    refine .inr ⟨_, rfl, by rw [add_block]; exact hB, fun i hi => ?_⟩
    have h1 : 32 + i < (hashCells (x :: l)).length := by rw [e, List.length_append, hx]; omega
    have h2 := hc (32 + i) h1
    rw [add_add, h2]
    congr 1
    have h3 : (hashCells (x :: l))[32 + i]? = (hashCells l)[i]? := by rw [e, List.getElem?_append_right (by omega), hx]; congr 1; omega
    rw [List.getElem?_eq_getElem h1, List.getElem?_eq_getElem hi] at h3
    exact Option.some.inj h3

/-- The root of the first leaves, so far. -/
def befSo (z : List UInt8) (pre : List PT) : List UInt8 := pre.foldl (fun r x => if x.1.1.left then r else nodeH x.1.2 r) z
theorem befSo_snoc (z : List UInt8) (pre : List PT) (x : PT) : befSo z (pre ++ [x]) = if x.1.1.left then befSo z pre else nodeH x.1.2 (befSo z pre) := by simp [befSo]

theorem befSo_len (z : List UInt8) (hz : z.length = 32) (pre : List PT) : (befSo z pre).length = 32 := by
  induction pre generalizing z with
  | nil => exact hz
  | cons x pre ih =>
    refine ih (if x.1.1.left then z else nodeH x.1.2 z) ?_
    split
    · exact hz
    · exact nodeH_len _ _

theorem befAll_zip : ∀ (ts : List Mth.Turn) (ps : List (List UInt8)) (z : List UInt8), ts.length = ps.length → (ts.zip ps).foldl (fun r x => if x.1.left then r else nodeH x.2 r) z = Mth.befAll nodeH z ts ps
  | [], [], z, _ => rfl
  | [], _ :: _, z, h => by simp at h
  | _ :: _, [], z, h => by simp at h
  | t :: ts, x :: xs, z, h => by
    have ih := befAll_zip ts xs (if t.left then z else nodeH x z) (by simpa using h)
    simpa [Mth.befAll] using ih

theorem befSo_all (z : List UInt8) (ts : List Mth.Turn) (ps : List (List UInt8)) (h : ts.length = ps.length) (ys : List PT) (hy : ys.map (·.1) = ts.zip ps) : befSo z ys = Mth.befAll nodeH z ts ps := by
  have e : befSo z ys = (ys.map (·.1)).foldl (fun r x => if x.1.left then r else nodeH x.2 r) z := by
    unfold befSo
    rw [List.foldl_map]
  rw [e, hy, befAll_zip ts ps z h]

set_option maxRecDepth 100000 in
set_option maxHeartbeats 16000000 in
theorem pCheckCon_any (m size : Int) (A : Option Addr) (q c : Nat) (ps : List (List UInt8)) (old root : List UInt8) (w : World) (hP : Hashs w w.heap.size A q ps) (hqc : q ≤ c) (hq9 : q ≤ 10000000000000) (ho : old.length = 32) (hr : root.length = 32) :
    Calls Try.prog 36 #[.int .i64 m, hv old, .int .i64 size, hv root, .slice A q c] w fun e w' => e = .returned (.int .i64 (ckConE m old size root ps)) ∧ Below w.heap.size w w' := by
  refine callsIn_wide.1 (callsIn_of_wp_marks (n := 10) Try.func36 rfl trivial ?_ rfl)
  have hfr : (#[.int .i64 m, hv old, .int .i64 size, hv root, .slice A q c] ++ Array.replicate (Try.f36.ntmps - (#[.int .i64 m, hv old, .int .i64 size, hv root, .slice A q c] : Array Value).size) undef : Array Value) = #[.int .i64 m, hv old, .int .i64 size, hv root, .slice A q c, undef, undef, undef, undef, undef, undef, undef, undef, undef, undef, undef, undef, undef, undef, undef, undef, undef, undef, undef, undef, undef, undef, undef, undef, undef, undef, undef, undef, undef, undef, undef, undef, undef, undef, undef, undef, undef, undef, undef, undef, undef, undef, undef, undef, undef, undef, undef, undef, undef, undef, undef, undef, undef, undef, undef, undef, undef, undef, undef, undef, undef, undef, undef, undef, undef, undef, undef, undef, undef, undef, undef, undef, undef, undef, undef, undef, undef, undef, undef, undef, undef, undef, undef, undef] := by kernel_rfl
  rw [hfr]
  refine wpIn_wide.2 ?_
  clear hfr
  unfold hv
  have hB1 := hid (((Below.refl w.heap.size w).alloc (Nat.le_refl _) (.cells (byteCells old).toArray 28)).alloc (by simp) (.cells (byteCells root).toArray 28))
  by_cases hok : partOk m size
  · obtain ⟨o1, o2, o3, o4⟩ := id hok
    obtain ⟨n, rfl⟩ : ∃ n : Nat, size = n := ⟨size.toNat, by omega⟩
    obtain ⟨m, rfl⟩ : ∃ n : Nat, m = n := ⟨m.toNat, by omega⟩
    obtain ⟨W, hW⟩ : ∃ W, Mth.way (endB m) n m 0 n = W := ⟨_, rfl⟩
    obtain ⟨g1, g2, -, -, -, -⟩ := way_spec (endB m) n m 0 n (endB_two _) (by omega) (by omega)
    obtain ⟨y1, y2⟩ := Mth.rise_way nodeH n old m 0 n ps (by omega) (by omega) (by omega)
    rw [Nat.sub_zero, Nat.sub_zero, decide_eq_true rfl, show Mth.way (fun _ b => decide (b = m)) n m 0 n = W from hW] at y1 y2
    rw [hW] at g1 g2
    have hE : ckConE m old n root ps = if (Mth.rise nodeH n old m n true ps).2.2 = true ∧ (Mth.rise nodeH n old m n true ps).1 = old ∧ (Mth.rise nodeH n old m n true ps).2.1 = root then 0 else 1001 := by
      unfold ckConE
      rw [if_pos hok, Int.toNat_natCast, Int.toNat_natCast]
    obtain ⟨E, hEd⟩ : ∃ E, ckConE m old n root ps = E := ⟨_, rfl⟩
    rw [hEd]
    rw [hEd] at hE
    generalize Mth.rise nodeH n old m n true ps = R at *
    have hE' := hid hE
    have hdn := hid (fun W' B (hc : W'.cell? ⟨B, 0, none⟩ = some (.int .i64 (m : Int))) => down_any m n 65 #[.pointer (some ⟨B, 0, none⟩)] (endB m) W' (by omega) (by omega) (by omega) (enters_of Try.func65 (by kernel_rfl) rfl) (asks_end m B W' hc) (endB_two _))
    rw [hW] at hdn
    have hl := hP.len
    have hCo := hid (hash_cells old ho)
    have hCr := hid (hash_cells root hr)
    have ho' := hid ho
    have hr' := hid hr
    have hP' := hid hP
    have y1' := hid y1
    have y2' := hid y2
    have c1 : ¬ (n : Int) < 1 := by omega
    have c2 : ¬ (256 : Int) < (n : Int) := by omega
    have c3 : ¬ (m : Int) < 1 := by omega
    have c4 : ¬ (n : Int) < (m : Int) := by omega
    obtain ⟨ts, e1, e2⟩ := W
    dsimp only at g1 g2 y1' y2'
    have z1 : (w.alloc (.cells (byteCells old).toArray 28)).heap.size = w.heap.size + 1 := by simp
    have hB2 := hid (hB1.out.alloc hB1.out.size (.cells #[.int .i64 (m : Int)] 3))
    have hO2 := hid (((Holds.new w 28 (byteCells old).toArray).alloc (.cells (byteCells root).toArray 28)).alloc (.cells #[.int .i64 (m : Int)] 3))
    have hR2 := hid (show Holds _ (w.heap.size + 1) 28 (byteCells root) from z1 ▸ (Holds.new (w.alloc (.cells (byteCells old).toArray 28)) 28 (byteCells root).toArray).alloc (.cells #[.int .i64 (m : Int)] 3))
    clear hok hE hEd hP ho hr y1 y2 o1 o2 o3 o4 hW z1
    go_wp2_with (go_at_call 55; refine (endsAt_any m _).mono ?_; rintro e w' ⟨rfl, rfl⟩)
    have hz2 : ((w.alloc (.cells (byteCells old).toArray 28)).alloc (.cells (byteCells root).toArray 28)).heap.size = w.heap.size + 1 + 1 := by simp
    have hcell : (((w.alloc (.cells (byteCells old).toArray 28)).alloc (.cells (byteCells root).toArray 28)).alloc (.cells #[.int .i64 (m : Int)] 3)).cell? ⟨w.heap.size + 1 + 1, 0, none⟩ = some (.int .i64 (m : Int)) := by
      rw [← hz2]
      exact (Holds.new _ 3 #[.int .i64 (m : Int)]).cell 0
    clear hz2
    with_reducible refine (hdn.out _ _ hcell).mono ?_
    clear hcell
    rintro e W1 ⟨A1, d1, rfl, hat1, hb1⟩
    have hB3 := hid (below_up hb1 hB2.out)
    have hO3 := hid (hO2.out.below hb1 hO2.out.lt)
    have hR3 := hid (hR2.out.below hb1 hR2.out.lt)
    have hat1' := hid hat1
    clear hb1 hat1
    unfold spanV
    have hB4 := hid (hB3.out.alloc hB3.out.size (.cells #[.int .i64 (e1 : Int), .int .i64 (e2 : Int)] 72))
    have hO4 := hid (hO3.out.alloc (.cells #[.int .i64 (e1 : Int), .int .i64 (e2 : Int)] 72))
    have hR4 := hid (hR3.out.alloc (.cells #[.int .i64 (e1 : Int), .int .i64 (e2 : Int)] 72))
    have hat4 := hid (At.alloc hat1'.out (Nat.le_refl _) (.cells #[.int .i64 (e1 : Int), .int .i64 (e2 : Int)] 72))
    have hE4 := hid (Holds.new W1 72 #[.int .i64 (e1 : Int), .int .i64 (e2 : Int)])
    have hz4 := hid (alloc_size W1 (.cells #[.int .i64 (e1 : Int), .int .i64 (e2 : Int)] 72))
    have hw1 := hid (show w.heap.size + 1 < W1.heap.size from hR3.out.lt)
    clear hB1 hB2 hO2 hR2 hB3 hO3 hR3 hat1'
    by_cases he1 : 0 < e1
    · have h1i : (0 : Int) < (e1 : Int) := by omega
      have hah : Mth.ahead (e1, e2) = 1 := if_pos he1
      rw [hah] at y1' y2'
      by_cases hq0 : q = 0
      · have hno : ¬ (R.2.2 = true ∧ R.1 = old ∧ R.2.1 = root) := fun h => by have := y1'.out.1 h.1; omega
        subst hq0
        go_wp2_with (first
          | ((with_reducible refine at_slot (some 41) ?_); generalize hW2 : W1.alloc (.cells #[.int .i64 (e1 : Int), .int .i64 (e2 : Int)] 72) = W2 at *; clear hW2; have c0 : W2.cell? ⟨W1.heap.size, 0, none⟩ = some (.int .i64 (e1 : Int)) := hE4.out.cell 0; refine wpList_load_mid rfl 28 (.tmp 6) rfl w.heap.size 0 rfl (byteCells old) _ (by exact h_all hO4.out) Try.underlying28 rfl (by exact hCo.out.size') ?_)
          | ((with_reducible refine at_slot (some 13) ?_); refine wpList_run rfl (.pointer (some ⟨W2.heap.size, 0, none⟩)) (W2.alloc (.cells z32 28)) (by kernel_rfl) ?_)
          | ((with_reducible refine at_slot none ?_); refine wpList_store_mid rfl 28 (.tmp 13) (.tmp 41) rfl W2.heap.size 0 (byteCells old).toArray rfl rfl (by exact hCo.out.there W2) (by exact hCo.out.size) (by exact hCo.out.one) ?_; generalize hW3 : World.setCells _ _ _ _ = W3; obtain ⟨hF5, hb5⟩ := hCo.out.new hW3; have hF5' := hid hF5; have hO5 := hid (hO4.out.below hb5 hO4.out.lt); have hR5 := hid (hR4.out.below hb5 hR4.out.lt); have hB5 := hid (below_up hb5 hB4.out); have hat5 := hid (At.below hat4.out (hb5.mono (by have := hz4.out; omega))); have c0 : W3.cell? ⟨W1.heap.size, 0, none⟩ = some (.int .i64 (e1 : Int)) := ((hE4.out.below hb5 hE4.out.lt).cell 0); clear hW3 hF5 hb5)
          | fail)
        exact ⟨_, results_tmp rfl _ _ _, by rw [hE'.out, if_neg hno]; rfl, hB5.out⟩
      · obtain ⟨p, f0, rfl, hpB, -, hf0, hf032, hcp⟩ := hP'.out.get (show 0 < q by omega)
        rw [Nat.zero_mul, add_zero'] at hcp
        obtain ⟨hsx, rfl⟩ : ∃ l, ps = f0 :: l := by
          cases ps with
          | nil => simp at hf0
          | cons y l =>
            obtain rfl : y = f0 := by simpa using hf0
            exact ⟨l, rfl⟩
        obtain ⟨qr, rfl⟩ : ∃ k, q = k + 1 := ⟨q - 1, by omega⟩
        obtain ⟨c3, rfl⟩ : ∃ k, c = k + 1 := ⟨c - 1, by omega⟩
        have hlr : hsx.length = qr := by simpa using hl
        have y1r := hid (show R.2.2 = true ↔ qr = ts.length from by rw [y1'.out, List.length_cons, hlr]; omega)
        have y2r := hid (show qr = ts.length → R.1 = Mth.befAll nodeH f0 ts hsx ∧ R.2.1 = Mth.upAll nodeH f0 ts hsx from fun h => by
          have h2 := y2'.out (by rw [List.length_cons, hlr, h]; omega)
          simpa using h2)
        obtain ⟨A3, hA3a, hA3b⟩ : ∃ A3, (c3 = 0 → A3 = some p) ∧ (¬ c3 = 0 → A3 = some (p.add 32)) := by
          by_cases hz : c3 = 0
          · exact ⟨some p, fun _ => rfl, fun h => absurd hz h⟩
          · exact ⟨some (p.add 32), fun h => absurd h hz, fun _ => rfl⟩
        have hA3a' := hid hA3a
        have hA3b' := hid hA3b
        have hP3 := hid (fun W (hW : Below w.heap.size w W) => show Hashs W w.heap.size A3 qr hsx from by
          have hPW := hP'.out.below hW
          by_cases hq1 : qr = 0
          · subst hq1
            obtain rfl : hsx = [] := List.length_eq_zero_iff.1 hlr
            exact Hashs.none0 _ _ _
          · rw [hA3b (by omega)]
            exact hPW.tail (by omega))
        have hCf := hid (hash_cells f0 hf032)
        have hf32 := hid hf032
        have hcp' := hid (fun W (hW : Below w.heap.size w W) => hcp.below hW hpB)
        have hq1i : (1 : Int) ≤ (qr : Int) + 1 := by omega
        have hqci : (qr : Int) + 1 ≤ (c3 : Int) + 1 := by omega
        have hq0i : (0 : Int) < (qr : Int) + 1 := by omega
        clear y1' y2' hP' hah hf0 hf032 hcp hA3a hA3b hl hlr hq0
        by_cases hlen : qr = ts.length
        · subst hlen
          go_wp2_with (first
            | ((with_reducible refine at_slot (some 41) ?_); generalize hW2 : W1.alloc (.cells #[.int .i64 (e1 : Int), .int .i64 (e2 : Int)] 72) = W2 at *; clear hW2; have c0 : W2.cell? ⟨W1.heap.size, 0, none⟩ = some (.int .i64 (e1 : Int)) := hE4.out.cell 0; refine wpList_load_mid rfl 28 (.tmp 6) rfl w.heap.size 0 rfl (byteCells old) _ (by exact h_all hO4.out) Try.underlying28 rfl (by exact hCo.out.size') ?_)
            | ((with_reducible refine at_slot (some 13) ?_); refine wpList_run rfl (.pointer (some ⟨W2.heap.size, 0, none⟩)) (W2.alloc (.cells z32 28)) (by kernel_rfl) ?_)
            | ((with_reducible refine at_slot none ?_); refine wpList_store_mid rfl 28 (.tmp 13) (.tmp 41) rfl W2.heap.size 0 (byteCells old).toArray rfl rfl (by exact hCo.out.there W2) (by exact hCo.out.size) (by exact hCo.out.one) ?_; generalize hW3 : World.setCells _ _ _ _ = W3; obtain ⟨hF5, hb5⟩ := hCo.out.new hW3; have hF5' := hid hF5; have hO5 := hid (hO4.out.below hb5 hO4.out.lt); have hR5 := hid (hR4.out.below hb5 hR4.out.lt); have hB5 := hid (below_up hb5 hB4.out); have hat5 := hid (At.below hat4.out (hb5.mono (by have := hz4.out; omega))); have c0 : W3.cell? ⟨W1.heap.size, 0, none⟩ = some (.int .i64 (e1 : Int)) := ((hE4.out.below hb5 hE4.out.lt).cell 0); clear hW3 hF5 hb5)
            | fail)
          have hdr : Below W3.heap.size W3 W3.drew := (Below.refl _ _).drew
          have hF6 := hid (hF5'.out.below hdr hF5'.out.lt)
          have hO6 := hid (hO5.out.below hdr hO5.out.lt)
          have hR6 := hid (hR5.out.below hdr hR5.out.lt)
          have hB6 := hid (below_up hdr hB5.out)
          have hat6 := hid (At.below hat5.out (hdr.mono (by have h1 := hz4.out; have h2 := hF5'.out.lt; omega)))
          have hE6 := hid (show W3.drew.cell? ⟨W1.heap.size, 0, none⟩ = some (.int .i64 (e1 : Int)) from c0)
          have hF5lt := hF5'.out.lt
          clear hdr hF5' hO5 hR5 hB5 hat5 c0
          refine wp_region_noPanic ?_
          refine wp_region_held_drew (S := fun W => CellsAt W p (byteCells f0)) (by kernel_rfl) (by exact (hcp'.out _ hB6.out)) (fun hHeld => ?_)
          generalize W3.drew = Wb at *
          refine wpAnyH_take (i := 0) (v := .slice (some p) (ts.length + 1) (c3 + 1)) rfl (by kernel_rfl) (by kernel_rfl) (by kernel_rfl) (fun _ _ _ h => h) (yieldsIf_move _ rfl rfl rfl) hHeld ?_
          simp only [ly1, ly2, ly3, Act.put, ly5, ly6, ly7]
          refine wpAnyH_take (i := 1) (v := .pointer (some p)) rfl (by kernel_rfl) (by kernel_rfl) (by kernel_rfl) (fun _ _ _ h => h) (.inl ⟨by kernel_rfl, fun w _ => by go_simp⟩) hHeld ?_
          simp only [ly1, ly2, ly3, Act.put, ly5, ly6, ly7]
          refine wpAnyH_take (i := 2) (v := .agg (byteCells f0).toArray) rfl (by kernel_rfl) (by kernel_rfl) (by kernel_rfl) (fun _ _ _ h => h) (yieldsIf_load_far (by kernel_rfl) _ _ rfl p rfl _ _ (fun W h => h) Try.underlying28 rfl (by exact hCf.out.size')) hHeld ?_
          simp only [ly1, ly2, ly3, Act.put, ly5, ly6, ly7]
          refine wpAnyH_take (i := 3) (v := .slice (some p) (ts.length + 1) (c3 + 1)) rfl (by kernel_rfl) (by kernel_rfl) (by kernel_rfl) (fun _ _ _ h => h) (yieldsIf_move _ rfl rfl rfl) hHeld ?_
          simp only [ly1, ly2, ly3, Act.put, ly5, ly6, ly7]
          refine wpAnyH_take (i := 4) (v := .slice A3 ts.length c3) rfl (by kernel_rfl) (by kernel_rfl) (by kernel_rfl) (fun _ _ _ h => h) (.inl ⟨by kernel_rfl, fun w _ => Or.elim (Nat.eq_zero_or_pos c3) (fun hz => by have e := hA3a'.out hz; subst hz; rw [e]; go_simp; try omega) (fun hz => by have e := hA3b'.out (by omega); have hz' : ¬ c3 = 0 := (by omega); rw [e] <;> go_simp)⟩) hHeld ?_
          simp only [ly1, ly2, ly3, Act.put, ly5, ly6, ly7]
          refine wpAnyH_ready (rs := [5]) (by kernel_rfl) (by simp) (AllReadyH.cons rfl (fun K hK => ?_) AllReadyH.nil)
          have hK' := hid hK
          clear hK
          rw [if_pos (by kernel_rfl)]
          simp only [ly1, ly2, ly3]
          refine wp_store_mid _ _ _ rfl W2.heap.size 0 (byteCells f0).toArray rfl rfl (by exact hCf.out.there' hF6.out (by rw [hCo.out.len])) (by exact hCf.out.size) (by exact hCf.out.one) ?_
          generalize hX7 : World.setCells _ _ _ _ = X7
          have hw1x := hw1.out
          have hz4x := hz4.out
          have hF7 : Holds X7 W2.heap.size 28 (byteCells f0) := by
            subst hX7
            have h1 := hF6.out.put 0 (byteCells f0) (by rw [hCf.out.len, hCo.out.len]; decide)
            rw [put_all _ _ (by rw [hCf.out.len, hCo.out.len])] at h1
            exact h1
          have hF5' := hid hF7
          have hO5 := hid (holds_far hO6.out (by omega) hX7)
          have hR5 := hid (holds_far hR6.out (by omega) hX7)
          have hB5 := hid (below_put hB6.out (by omega) hX7)
          have hat5 := hid (At.below hat6.out (show Below W1.heap.size _ X7 from below_put (Below.refl _ _) (by omega) hX7))
          have c0 : X7.cell? ⟨W1.heap.size, 0, none⟩ = some (.int .i64 (e1 : Int)) := by
            rw [← hX7]
            exact (World.cell?_of_block (cells_far _ _ _ _ _ (show W1.heap.size ≠ W2.heap.size by omega))).trans hE6.out
          clear hF6 hO6 hR6 hB6 hat6 hE6 hX7 hF7 hw1x hz4x
          refine hK'.out _ _ (by exact (hcp'.out _ hB5.out)) (fun hHeld => ?_)
          clear hK' K
          refine wpAnyH_take (i := 6) (v := .slice A3 ts.length c3) rfl (by kernel_rfl) (by kernel_rfl) (by kernel_rfl) (fun _ _ _ h => h) (yieldsIf_assign _ rfl rfl rfl) hHeld ?_
          simp only [ly1, ly2, ly3, Act.put, ly5, ly6, ly7]
          refine wpAnyH_done (by kernel_rfl) ?_ _
          refine NoPanic.normal ?_
          clear hHeld
          generalize X7 = W3 at *
          go_wp2_with fail
          have hdr : Below W3.heap.size W3 W3.drew := (Below.refl _ _).drew
          have hFd := hid (hF5'.out.below hdr hF5'.out.lt)
          have hOd := hid (hO5.out.below hdr hO5.out.lt)
          have hRd := hid (hR5.out.below hdr hR5.out.lt)
          have hBd := hid (below_up hdr hB5.out)
          have hatd := hid (At.below hat5.out (hdr.mono (by have h1 := hz4.out; have h2 := hF5'.out.lt; omega)))
          clear hdr
          refine wp_region_noPanic ?_
          refine wp_region_held_drew (S := fun W => Holds W W2.heap.size 28 (byteCells f0)) (by kernel_rfl) (by exact hFd.out) (fun hHeld => ?_)
          generalize W3.drew = Wb at *
          have hwzb : W2.heap.size < Wb.heap.size := hFd.out.lt
          refine wpAnyH_take (i := 0) (v := .agg (byteCells f0).toArray) rfl (by kernel_rfl) (by kernel_rfl) (by kernel_rfl) (fun _ _ _ h => h) (yieldsIf_load_mid (by kernel_rfl) _ _ rfl _ _ rfl _ _ (fun W h => h_all h) Try.underlying28 rfl (by exact hCf.out.size')) hHeld ?_
          simp only [ly1, ly2, ly3, Act.put, ly5, ly6, ly7]
          refine wpAnyH_take (i := 1) (v := .agg (byteCells f0).toArray) rfl (by kernel_rfl) (by kernel_rfl) (by kernel_rfl) (fun _ _ _ h => h) (yieldsIf_load_mid (by kernel_rfl) _ _ rfl _ _ rfl _ _ (fun W h => h_all h) Try.underlying28 rfl (by exact hCf.out.size')) hHeld ?_
          simp only [ly1, ly2, ly3, Act.put, ly5, ly6, ly7]
          have hb_0 := hid (Below.refl Wb.heap.size Wb)
          refine wpAnyH_ready (rs := [2, 3]) (by kernel_rfl) (by simp) (AllReadyH.cons rfl (fun K hK => ?_) (AllReadyH.cons rfl (fun K hK => ?_) AllReadyH.nil))
          · skip
            have hK' := hid hK
            clear hK
            rw [if_pos (by kernel_rfl)]
            simp only [ly1, ly2, ly3]
            obtain ⟨g14, hqg14⟩ : ∃ g, g = Wb.heap.size := ⟨_, rfl⟩
            refine wp_run (.pointer (some ⟨g14, 0, none⟩)) (Wb.alloc (.cells z32 28)) (by rw [hqg14]; kernel_rfl) ?_
            have hb_1 := hid (hb_0.out.alloc hb_0.out.size (.cells z32 28))
            have hN1_g14 := hid (show Holds (Wb.alloc (.cells z32 28)) g14 28 (z32).toList from by rw [hqg14]; exact Holds.new Wb _ _)
            have hgeg14 : Wb.heap.size ≤ g14 := by rw [hqg14]; exact hb_0.out.size
            generalize hWg14 : Wb.alloc (.cells z32 28) = W_g14_1 at *
            clear hWg14 hqg14 hb_0
            refine hK'.out _ _ (by exact (hFd.out.below hb_1.out hFd.out.lt)) (fun hHeld => ?_)
            clear hK' K
            refine wpAnyH_ready (rs := [3]) (by kernel_rfl) (by simp) (AllReadyH.cons rfl (fun K hK => ?_) AllReadyH.nil)
            have hK' := hid hK
            clear hK
            rw [if_pos (by kernel_rfl)]
            simp only [ly1, ly2, ly3]
            obtain ⟨g15, hqg15⟩ : ∃ g, g = W_g14_1.heap.size := ⟨_, rfl⟩
            refine wp_run (.pointer (some ⟨g15, 0, none⟩)) (W_g14_1.alloc (.cells z32 28)) (by rw [hqg15]; kernel_rfl) ?_
            have hb_2 := hid (hb_1.out.alloc hb_1.out.size (.cells z32 28))
            have hN2_g15 := hid (show Holds (W_g14_1.alloc (.cells z32 28)) g15 28 (z32).toList from by rw [hqg15]; exact Holds.new W_g14_1 _ _)
            have hgeg15 : Wb.heap.size ≤ g15 := by rw [hqg15]; exact hb_1.out.size
            have hN2_g14 := hid (hN1_g14.out.alloc (.cells z32 28))
            have hne_g14_g15 : g14 ≠ g15 := by have := hN1_g14.out.lt; omega
            generalize hWg15 : W_g14_1.alloc (.cells z32 28) = W_g15_2 at *
            clear hWg15 hqg15 hb_1 hN1_g14
            refine hK'.out _ _ (by exact (hFd.out.below hb_2.out hFd.out.lt)) (fun hHeld => ?_)
            clear hK' K
            refine wpAnyH_ready (rs := [4]) (by kernel_rfl) (by simp) (AllReadyH.cons rfl (fun K hK => ?_) AllReadyH.nil)
            have hK' := hid hK
            clear hK
            rw [if_pos (by kernel_rfl)]
            simp only [ly1, ly2, ly3]
            refine wp_store_mid _ _ _ rfl g14 0 (byteCells f0).toArray rfl rfl (by exact hCf.out.there' hN2_g14.out rfl) (by exact hCf.out.size) (by exact hCf.out.one) ?_
            generalize hX4 : World.setCells _ _ _ _ = X4
            obtain ⟨hG4, hb4⟩ := hCf.out.set hN2_g14.out rfl hX4 hb_2.out (by omega)
            have hG4' := hid hG4
            have hJ4 := hid (holds_far hN2_g15.out (Ne.symm hne_g14_g15) hX4)
            have hb4' := hid hb4
            have hF4 := hid (hFd.out.below hb4 hFd.out.lt)
            clear hX4 hG4 hb4 hb_2 hN2_g14 hN2_g15
            refine hK'.out _ _ (by exact hF4.out) (fun hHeld => ?_)
            clear hK' K
            refine wpAnyH_ready (rs := [5]) (by kernel_rfl) (by simp) (AllReadyH.cons rfl (fun K hK => ?_) AllReadyH.nil)
            have hK' := hid hK
            clear hK
            rw [if_pos (by kernel_rfl)]
            simp only [ly1, ly2, ly3]
            refine wp_store_mid _ _ _ rfl g15 0 (byteCells f0).toArray rfl rfl (by exact hCf.out.there' hJ4.out rfl) (by exact hCf.out.size) (by exact hCf.out.one) ?_
            generalize hX5 : World.setCells _ _ _ _ = W5
            obtain ⟨hJ5, hb5⟩ := hCf.out.set hJ4.out rfl hX5 hb4'.out (by omega)
            have hJ5' := hid hJ5
            have hG5 := hid (holds_far hG4'.out hne_g14_g15 hX5)
            have hF5 := hid (hFd.out.below hb5 hFd.out.lt)
            have hO6 := hid (hOd.out.below hb5 hOd.out.lt)
            have hR6 := hid (hRd.out.below hb5 hRd.out.lt)
            have hB6 := hid (below_up hb5 hBd.out)
            have hat6 := hid (At.below hatd.out (hb5.mono (by have h1 := hz4.out; omega)))
            clear hX5 hJ5 hb5 hb4' hJ4 hG4' hF4
            refine hK'.out _ _ (by exact hF5.out) (fun hHeld => ?_)
            clear hK' K
            refine wpAnyH_done (by kernel_rfl) ?_ _
            refine NoPanic.normal ?_
            clear hHeld
            go_wp2_with (go_at_call 52; refine (up_any _ _ _ _ _ _ _).mono ?_; rintro e W6 ⟨rfl, hW6⟩; have hW6' := hid hW6; clear hW6)
            have hW6 := hW6'.out
            have hz5 : g14 < W5.heap.size := hG5.out.lt
            have hz5' : g15 < W5.heap.size := hJ5'.out.lt
            have hz6 : W6.heap.size = W5.heap.size + 2 := by rw [hW6]; simp
            have hb6 : Below W5.heap.size W5 W6 := by rw [hW6]; exact ((Below.refl _ _).alloc (Nat.le_refl _) _).alloc (by simp) _
            have q1 : W6.cell? ⟨W5.heap.size, 0, none⟩ = some (.slice A1 ts.length d1) := by rw [hW6]; exact ((Holds.new W5 70 #[.slice A1 ts.length d1]).alloc _).cell 0
            have q2 : W6.cell? ⟨W5.heap.size + 1, 0, none⟩ = some (.slice A3 ts.length c3) := by
              have h := (Holds.new (W5.alloc (.cells #[.slice A1 ts.length d1] 70)) 41 #[.slice A3 ts.length c3]).cell 0
              rw [alloc_size] at h
              rw [hW6]
              exact h
            have hG7 := hid (hG5.out.below hb6 hG5.out.lt)
            have hJ7 := hid (hJ5'.out.below hb6 hJ5'.out.lt)
            have hO7 := hid (hO6.out.below hb6 hO6.out.lt)
            have hR7 := hid (hR6.out.below hb6 hR6.out.lt)
            have hB7 := hid (below_up hb6 hB6.out)
            have hwz := hw1.out
            have hz4' := hz4.out
            have hat7 := At.below hat6.out (hb6.mono (by omega))
            have hP7 := hP3.out W6 hB7.out
            have hl' := hid hP7.len
            have hstops := hid (up_stops 8 W6.heap.size g14 g15 W5.heap.size (W5.heap.size + 1) (by omega) (by omega) (by omega) (by omega) (by omega) (by omega) A1 ts.length d1 ts A3 c3 hsx rfl hl'.out hP7.2 (by omega) W6 (Nat.le_refl _) q1 q2
              (fun j t ht => by
                have hj := (List.getElem?_eq_some_iff.1 ht).1
                obtain ⟨p, t', hA, hpB, -, ht', hc⟩ := turns_get hat7 rfl hj
                obtain rfl : t' = t := Option.some.inj (ht'.symm.trans ht)
                exact ⟨p, hA, by omega, by omega, by omega, hc⟩)
              (fun j y hy => by
                have hj := (List.getElem?_eq_some_iff.1 hy).1
                have hlz := hl'.out
                obtain ⟨p, y', hA, hpB, -, hy', -, hc⟩ := hP7.get (show j < ts.length by omega)
                obtain rfl : y' = y := Option.some.inj (hy'.symm.trans hy)
                exact ⟨p, hA, by omega, by omega, by omega, hc⟩))
            have hz6' := hid hz6
            have hzb := hid hwzb
            clear hW6 hb6 q1 q2 hat7 hP7 hz6 hz4'
            refine (wpIn_wide (n := 10)).1 ?_
            refine wpIn_rangeFunc_ownH rfl (by omega) (gf := 64) (lb := #[.pointer (some ⟨W5.heap.size, 0, none⟩), .pointer (some ⟨W5.heap.size + 1, 0, none⟩)]) rfl trivial (enters_of Try.func64 (by kernel_rfl) rfl)
              hstops.out KeepE.trans (KeepE.put (Nat.le_refl _)) (Below.refl _ _) (fun _ => rfl)
              (fun pre W => (Holds W g15 28 (byteCells (upSo f0 pre)) ∧ Holds W g14 28 (byteCells (befSo f0 pre)) ∧ Holds W w.heap.size 28 (byteCells old) ∧ Holds W (w.heap.size + 1) 28 (byteCells root) ∧ W6.heap.size ≤ W.heap.size) ∧ Below w.heap.size w W)
              (fun _ _ _ => False)
              (OwnFrom.and (Own.from (fun s A B row hs hg hr => ⟨holds_kept hs.1 hg hr, holds_kept hs.2.1 hg hr, holds_kept hs.2.2.1 hg hr, holds_kept hs.2.2.2.1 hg hr, Nat.le_trans hs.2.2.2.2 hg.size⟩) _) (ownFrom_below (Nat.le_refl _) (by have h1 := hz6'.out; have h2 := hz4.out; have h3 := hzb.out; omega)))
              (fun _ _ _ _ _ hs _ _ => hs)
              ⟨⟨hJ7.out, hG7.out, hO7.out, hR7.out, Nat.le_refl _⟩, hB7.out⟩
              (fun y a' W => ∃ b1 b2, a' = { tmps := #[.int .i64 (m : Int), .agg (byteCells old).toArray, .int .i64 (n : Int), .agg (byteCells root).toArray, .slice A3 ts.length c3, undef, .pointer (some ⟨w.heap.size, 0, none⟩), undef, .pointer (some ⟨w.heap.size + 1, 0, none⟩), undef, .int .i64 0, .slice A1 ts.length d1, .pointer (some ⟨W1.heap.size, 0, none⟩), .pointer (some ⟨W2.heap.size, 0, none⟩), .pointer (some ⟨g14, 0, none⟩), .pointer (some ⟨g15, 0, none⟩), .pointer (some ⟨b1, 0, none⟩), .pointer (some ⟨b2, 0, none⟩), .int .i64 (n : Int), .bool false, .bool false, .int .i64 (n : Int), .bool false, .bool false, .bool false, .int .i64 (m : Int), .bool false, .bool false, .bool false, .int .i64 (m : Int), .int .i64 (n : Int), .bool false, .bool false, .tuple #[.slice A1 ts.length d1, .agg #[.int .i64 (e1 : Int), .int .i64 (e2 : Int)]], .int .i64 (m : Int), .int .i64 (n : Int), .int .i64 (m : Int), .func (.func 65) #[] #[.pointer (some ⟨w.heap.size + 1 + 1, 0, none⟩)], .tuple #[.slice A1 ts.length d1, .agg #[.int .i64 (e1 : Int), .int .i64 (e2 : Int)]], .slice A1 ts.length d1, .agg #[.int .i64 (e1 : Int), .int .i64 (e2 : Int)], .agg (byteCells old).toArray, .pointer (some ⟨W1.heap.size, 0, none⟩), .int .i64 (e1 : Int), .bool true, .bool true, .slice (some p) (ts.length + 1) (c3 + 1), .int .i64 ((ts.length : Int) + 1), .bool true, .bool true, .slice (some p) (ts.length + 1) (c3 + 1), .pointer (some p), .agg (byteCells f0).toArray, .slice (some p) (ts.length + 1) (c3 + 1), .slice A3 ts.length c3, undef, undef, undef, .slice A3 ts.length c3, .int .i64 (ts.length : Int), .slice A1 ts.length d1, .int .i64 (ts.length : Int), .bool false, .agg (byteCells f0).toArray, .agg (byteCells f0).toArray, .slice A1 ts.length d1, .slice A3 ts.length c3, .func (.func 64) #[] #[.pointer (some ⟨W5.heap.size, 0, none⟩), .pointer (some ⟨W5.heap.size + 1, 0, none⟩)], .agg #[.bool y.1.1.left, .int .i64 (y.1.1.lo : Int), .int .i64 (y.1.1.hi : Int)], .agg (byteCells y.1.2).toArray, undef, undef, undef, undef, undef, undef, undef, undef, undef, undef, undef, undef, undef, undef, undef, undef, undef, undef, undef], defers := [] } ∧ W6.heap.size ≤ b1 ∧ W6.heap.size ≤ b2 ∧ Holds W b1 82 (turnC y.1.1) ∧ Holds W b2 28 (byteCells y.1.2))
              (fun y a' _ A B row hs hg hr => by
                obtain ⟨b1, b2, h1, h2, h3, h4, h5⟩ := hs
                exact ⟨b1, b2, h1, h2, h3, holds_kept h4 hg (fun r e => (hr r e).2), holds_kept h5 hg (fun r e => (hr r e).2)⟩) ?assign ?body ?done ?stop
            case assign =>
              rintro l pre y W K ⟨⟨hJ, hG, hO, hR, hsz⟩, hB⟩ hK
              have hCx := hid (hash_cells y.1.2 y.2)
              unfold turnV hv
              gi_wp2_with (first
                | ((with_reducible refine at_slotIn (some 17) ?_); refine wpListIn_run rfl (fun c e => by cases e) rfl (.pointer (some ⟨(W.alloc (.cells #[.bool y.1.1.left, .int .i64 (y.1.1.lo : Int), .int .i64 (y.1.1.hi : Int)] 82)).heap.size, 0, none⟩)) ((W.alloc (.cells #[.bool y.1.1.left, .int .i64 (y.1.1.lo : Int), .int .i64 (y.1.1.hi : Int)] 82)).alloc (.cells z32 28)) (by kernel_rfl) ?_)
                | ((with_reducible refine at_slotIn none ?_); refine wpListIn_store_mid rfl 28 (.tmp 17) (.tmp 69) rfl (W.alloc (.cells #[.bool y.1.1.left, .int .i64 (y.1.1.lo : Int), .int .i64 (y.1.1.hi : Int)] 82)).heap.size 0 (byteCells y.1.2).toArray rfl rfl (by exact hCx.out.there _) (by exact hCx.out.size) (by exact hCx.out.one) ?_)
                | fail)
              obtain ⟨Wq, hWq⟩ : ∃ Wq, W.alloc (.cells #[.bool y.1.1.left, .int .i64 (y.1.1.lo : Int), .int .i64 (y.1.1.hi : Int)] 82) = Wq := ⟨_, rfl⟩
              have hzq : Wq.heap.size = W.heap.size + 1 := by rw [← hWq]; simp
              have hbq : Below W.heap.size W Wq := by rw [← hWq]; exact (Below.refl _ _).alloc (Nat.le_refl _) _
              have hT : Holds Wq W.heap.size 82 (turnC y.1.1) := by rw [← hWq]; exact Holds.new W _ _
              rw [hWq]
              obtain ⟨W', hW'⟩ : ∃ W', (Wq.alloc (.cells z32 28)).setCells Wq.heap.size 0 (byteCells y.1.2) = W' := ⟨_, rfl⟩
              obtain ⟨hX, hbx⟩ := hCx.out.new hW'
              rw [hzq] at hW' hX
              rw [hW']
              have hb' : Below W.heap.size W W' := hbq.trans (hbx.mono (by omega))
              refine hK _ _ ⟨hb'.size, fun i o _ hi _ => (hb'.block i (Array.getElem?_eq_some_iff.1 hi).1).trans hi⟩ (KeepE.below hsz hb') ⟨⟨hJ.below hb' hJ.lt, hG.below hb' hG.lt, hO.below hb' hO.lt, hR.below hb' hR.lt, Nat.le_trans hsz hb'.size⟩, hB.trans (hb'.mono hB.size)⟩ ⟨W.heap.size, W.heap.size + 1, rfl, hsz, by omega, hT.below hbx hT.lt, hX⟩
            case body =>
              rintro l pre ⟨⟨⟨left, lo, hi⟩, xh⟩, hxl⟩ a' W hl ⟨r0, hr0⟩ ⟨⟨hJ, hG, hO, hR, hsz⟩, hB⟩ ⟨b1, b2, rfl, hb1, hb2, hT, hX⟩ hlt
              dsimp only at hT hX hxl ⊢
              have hu32 := upSo_len _ hf32.out pre
              have hv32 := befSo_len _ hf32.out pre
              have hj := hid (fun W => join_any ⟨left, lo, hi⟩ (upSo f0 pre) xh hu32 hxl W)
              have hjb := hid (fun W => join_any ⟨left, lo, hi⟩ (befSo f0 pre) xh hv32 hxl W)
              have hCn := hid (hash_cells _ (oneUp_len ⟨left, lo, hi⟩ (upSo f0 pre) xh))
              have hCb := hid (hash_cells _ (oneUp_len ⟨left, lo, hi⟩ (befSo f0 pre) xh))
              have hsn := hid (upSo_snoc f0 pre ⟨⟨⟨left, lo, hi⟩, xh⟩, hxl⟩)
              have hsb := hid (befSo_snoc f0 pre ⟨⟨⟨left, lo, hi⟩, xh⟩, hxl⟩)
              have hi1 : (Try.prog.info? 28).map (·.size) = some (byteCells xh).length := (hash_cells xh hxl).size'
              have hi2 : (Try.prog.info? 28).map (·.size) = some (byteCells (upSo f0 pre)).length := (hash_cells _ hu32).size'
              have hi3 : (Try.prog.info? 28).map (·.size) = some (byteCells (befSo f0 pre)).length := (hash_cells _ hv32).size'
              have hul : (byteCells (upSo f0 pre)).length = 32 := (hash_cells _ hu32).len
              have hvl : (byteCells (befSo f0 pre)).length = 32 := (hash_cells _ hv32).len
              have hnb := hid (show left = false → Mth.oneUp nodeH ⟨left, lo, hi⟩ (befSo f0 pre) xh = nodeH xh (befSo f0 pre) from fun h => by simp [Mth.oneUp, h])
              dsimp only at hsn hsb
              unfold hv turnV at hj hjb
              have hJ' := hid hJ
              have hG' := hid hG
              have hO' := hid hO
              have hR' := hid hR
              have hB' := hid hB
              have hX' := hid hX
              have hT' := hid hT
              have hwz := hw1.out
              generalize Mth.oneUp nodeH ⟨left, lo, hi⟩ (upSo f0 pre) xh = nd at *
              generalize Mth.oneUp nodeH ⟨left, lo, hi⟩ (befSo f0 pre) xh = nb at *
              clear hJ hG hO hR hB hX hT
              have hn14 : w.heap.size + 1 < g14 := by have h1 := hz4.out; have h2 := hzb.out; omega
              have hn15 : w.heap.size + 1 < g15 := by have h1 := hz4.out; have h2 := hzb.out; omega
              have hb14 : g14 < b1 := by have h1 := hz6'.out; omega
              have hb15 : g15 < b1 := by have h1 := hz6'.out; omega
              have hc14 : g14 < b2 := by have h1 := hz6'.out; omega
              have hc15 : g15 < b2 := by have h1 := hz6'.out; omega
              cases left
              · skip
                gi_wp2_with (first
                    | ((with_reducible refine at_slotIn (some 70) ?_); refine wpListIn_load_mid rfl 82 (.tmp 16) rfl b1 0 rfl [.bool false, .int .i64 (lo : Int), .int .i64 (hi : Int)] _ (by exact h_all hT'.out) Try.underlying82 rfl (by kernel_rfl) ?_)
                    | ((with_reducible refine at_slotIn (some 71) ?_); refine wpListIn_load_mid rfl 28 (.tmp 15) rfl g15 0 rfl (byteCells (upSo f0 pre)) _ (by exact h_all hJ'.out) Try.underlying28 rfl (by exact hi2) ?_)
                    | ((with_reducible refine at_slotIn (some 72) ?_); refine wpListIn_load_mid rfl 28 (.tmp 17) rfl b2 0 rfl (byteCells xh) _ (by exact h_all hX'.out) Try.underlying28 rfl (by exact hi1) ?_)
                    | fail)
                refine ⟨trivial, (CallsIn.inRound l (callsIn_wide.2 (hj.out W))).mono ?_⟩
                rintro e W7 ⟨rfl, hb7⟩
                have hJ7 := hid (hJ'.out.below hb7 hJ'.out.lt)
                have hG7 := hid (hG'.out.below hb7 hG'.out.lt)
                have hO7 := hid (hO'.out.below hb7 hO'.out.lt)
                have hR7 := hid (hR'.out.below hb7 hR'.out.lt)
                have hT7 := hid (hT'.out.below hb7 hT'.out.lt)
                have hX7 := hid (hX'.out.below hb7 hX'.out.lt)
                have hb7' := hid hb7
                clear hb7
                gi_wp2_with (first
                  | ((with_reducible refine at_slotIn none ?_); refine wpListIn_store_mid rfl 28 (.tmp 15) (.tmp 73) rfl g15 0 (byteCells nd).toArray rfl rfl (by exact hCn.out.there' hJ7.out hul) (by exact hCn.out.size) (by exact hCn.out.one) ?_; generalize hW8 : World.setCells _ _ _ _ = W8; obtain ⟨hJ8, hB8⟩ := hCn.out.set (w := w) hJ7.out hul hW8 (hB'.out.trans (hb7'.out.mono hB'.out.size)) (by omega); have hJ8' := hid hJ8; have hB8' := hid hB8; have hG8 := hid (holds_far hG7.out hne_g14_g15 hW8); have hO8 := hid (holds_far hO7.out (by omega) hW8); have hR8 := hid (holds_far hR7.out (by omega) hW8); have hT8 := hid (holds_far hT7.out (by omega) hW8); have hX8 := hid (holds_far hX7.out (by omega) hW8); have ct : W8.cell? ⟨b1, 0, none⟩ = some (.bool false) := hT8.out.cell 0; have hg8 := hid (grown_put (g := g15) hb7'.out hW8); clear hW8 hJ8 hB8)
                  | ((with_reducible refine at_slotIn (some 77) ?_); refine wpListIn_load_mid rfl 82 (.tmp 16) rfl b1 0 rfl [.bool false, .int .i64 (lo : Int), .int .i64 (hi : Int)] _ (by exact h_all hT8.out) Try.underlying82 rfl (by kernel_rfl) ?_)
                  | ((with_reducible refine at_slotIn (some 78) ?_); refine wpListIn_load_mid rfl 28 (.tmp 14) rfl g14 0 rfl (byteCells (befSo f0 pre)) _ (by exact h_all hG8.out) Try.underlying28 rfl (by exact hi3) ?_)
                  | ((with_reducible refine at_slotIn (some 79) ?_); refine wpListIn_load_mid rfl 28 (.tmp 17) rfl b2 0 rfl (byteCells xh) _ (by exact h_all hX8.out) Try.underlying28 rfl (by exact hi1) ?_)
                  | fail)
                refine ⟨trivial, (CallsIn.inRound l (callsIn_wide.2 (hjb.out W8))).mono ?_⟩
                rintro e W9 ⟨rfl, hb9⟩
                have hJ9 := hid (hJ8'.out.below hb9 hJ8'.out.lt)
                have hG9 := hid (hG8.out.below hb9 hG8.out.lt)
                have hO9 := hid (hO8.out.below hb9 hO8.out.lt)
                have hR9 := hid (hR8.out.below hb9 hR8.out.lt)
                have hb9' := hid hb9
                clear hb9
                gi_wp2_with (first
                  | ((with_reducible refine at_slotIn none ?_); refine wpListIn_store_mid rfl 28 (.tmp 14) (.tmp 80) rfl g14 0 (byteCells nb).toArray rfl rfl (by exact hCb.out.there' hG9.out hvl) (by exact hCb.out.size) (by exact hCb.out.one) ?_)
                  | fail)
                obtain ⟨W10, hW10⟩ : ∃ W10, W9.setCells g14 0 (byteCells nb) = W10 := ⟨_, rfl⟩
                rw [hW10]
                obtain ⟨hG10, hB10⟩ := hCb.out.set (w := w) hG9.out hvl hW10 (hB8'.out.trans (hb9'.out.mono hB8'.out.size)) (by omega)
                have hJ10 := holds_far hJ9.out (Ne.symm hne_g14_g15) hW10
                have hO10 := holds_far hO9.out (show w.heap.size ≠ g14 by omega) hW10
                have hR10 := holds_far hR9.out (show w.heap.size + 1 ≠ g14 by omega) hW10
                have hg10 := grown_put (g := g14) hb9'.out hW10
                have hsz8 := Nat.le_trans hsz hg8.out.size
                refine ⟨(KeepsFrom.of_grownBy hg8.out (fun j e => by have := Option.some.inj e; have h1 := hz6'.out; omega)).trans (KeepsFrom.of_grownBy hg10 (fun j e => by have := Option.some.inj e; have h1 := hz6'.out; omega)), (KeepE.grown2 hsz hg8.out).trans (KeepE.grown1 hsz8 hg10), ⟨?_, ?_, hO10, hR10, Nat.le_trans hsz8 hg10.size⟩, hB10⟩
                · rw [hsn.out]
                  exact hJ10
                · rw [hsb.out, if_neg (by simp), ← hnb.out (by first | rfl | trivial)]
                  exact hG10
              · skip
                gi_wp2_with (first
                    | ((with_reducible refine at_slotIn (some 70) ?_); refine wpListIn_load_mid rfl 82 (.tmp 16) rfl b1 0 rfl [.bool true, .int .i64 (lo : Int), .int .i64 (hi : Int)] _ (by exact h_all hT'.out) Try.underlying82 rfl (by kernel_rfl) ?_)
                    | ((with_reducible refine at_slotIn (some 71) ?_); refine wpListIn_load_mid rfl 28 (.tmp 15) rfl g15 0 rfl (byteCells (upSo f0 pre)) _ (by exact h_all hJ'.out) Try.underlying28 rfl (by exact hi2) ?_)
                    | ((with_reducible refine at_slotIn (some 72) ?_); refine wpListIn_load_mid rfl 28 (.tmp 17) rfl b2 0 rfl (byteCells xh) _ (by exact h_all hX'.out) Try.underlying28 rfl (by exact hi1) ?_)
                    | fail)
                refine ⟨trivial, (CallsIn.inRound l (callsIn_wide.2 (hj.out W))).mono ?_⟩
                rintro e W7 ⟨rfl, hb7⟩
                have hJ7 := hid (hJ'.out.below hb7 hJ'.out.lt)
                have hG7 := hid (hG'.out.below hb7 hG'.out.lt)
                have hO7 := hid (hO'.out.below hb7 hO'.out.lt)
                have hR7 := hid (hR'.out.below hb7 hR'.out.lt)
                have hT7 := hid (hT'.out.below hb7 hT'.out.lt)
                have hX7 := hid (hX'.out.below hb7 hX'.out.lt)
                have hb7' := hid hb7
                clear hb7
                gi_wp2_with (first
                  | ((with_reducible refine at_slotIn none ?_); refine wpListIn_store_mid rfl 28 (.tmp 15) (.tmp 73) rfl g15 0 (byteCells nd).toArray rfl rfl (by exact hCn.out.there' hJ7.out hul) (by exact hCn.out.size) (by exact hCn.out.one) ?_; generalize hW8 : World.setCells _ _ _ _ = W8; obtain ⟨hJ8, hB8⟩ := hCn.out.set (w := w) hJ7.out hul hW8 (hB'.out.trans (hb7'.out.mono hB'.out.size)) (by omega); have hJ8' := hid hJ8; have hB8' := hid hB8; have hG8 := hid (holds_far hG7.out hne_g14_g15 hW8); have hO8 := hid (holds_far hO7.out (by omega) hW8); have hR8 := hid (holds_far hR7.out (by omega) hW8); have hT8 := hid (holds_far hT7.out (by omega) hW8); have hX8 := hid (holds_far hX7.out (by omega) hW8); have ct : W8.cell? ⟨b1, 0, none⟩ = some (.bool true) := hT8.out.cell 0; have hg8 := hid (grown_put (g := g15) hb7'.out hW8); clear hW8 hJ8 hB8)
                  | fail)
                refine ⟨KeepsFrom.of_grownBy hg8.out (fun j e => by have := Option.some.inj e; have h1 := hz6'.out; omega), KeepE.grown2 hsz hg8.out, ⟨?_, ?_, hO8.out, hR8.out, Nat.le_trans hsz hg8.out.size⟩, hB8'.out⟩
                · rw [hsn.out]
                  exact hJ8'.out
                · rw [hsb.out, if_pos (by first | rfl | trivial)]
                  exact hG8.out
            case done =>
              rintro D ys W hD hys ⟨⟨hJ, hG, hO, hR, hsz⟩, hB⟩ hK
              have hU32 := upSo_len _ hf32.out ys
              have hV32 := befSo_len _ hf32.out ys
              rw [upSo_all f0 ts hsx hl'.out.symm ys hys] at hJ hU32
              rw [befSo_all f0 ts hsx hl'.out.symm ys hys] at hG hV32
              obtain ⟨hV, hU⟩ := y2r.out (by first | rfl | trivial)
              have hok := y1r.out.2 (by first | rfl | trivial)
              have hE1 := hE'.out
              rw [hV, hU] at hE1
              have hE2 := hid hE1
              have hok' := hid hok
              have hK' := hid hK
              have hJ' := hid hJ
              have hG' := hid hG
              have hO' := hid hO
              have hR' := hid hR
              have hB' := hid hB
              have hwD := hid (show w.heap.size ≤ D from by have h1 := hD; have h2 := hz6'.out; have h3 := hw1.out; have h4 := hz4.out; have h5 := hzb.out; omega)
              generalize Mth.upAll nodeH f0 ts hsx = U at *
              generalize Mth.befAll nodeH f0 ts hsx = V at *
              have hCU := hid (hash_cells U hU32)
              have hCV := hid (hash_cells V hV32)
              have hU0 := hid hU32
              have hV0 := hid hV32
              clear hK hJ hG hO hR hB hU hV hok hE1 hU32 hV32 hys hD
              have hfin := hid (show Below w.heap.size w (W.putObj D (.deferred none)) from hB'.out.trans (belowK_b (w := w) (Nat.le_refl _) W D _ _ hwD.out hK'.out rfl rfl))
              obtain ⟨bv, hbv⟩ : ∃ b, (!(V == old)) = b := ⟨_, rfl⟩
              obtain ⟨bu, hbu⟩ : ∃ b, (!(U == root)) = b := ⟨_, rfl⟩
              have hbv' := hid hbv
              have hbu' := hid hbu
              clear hbv hbu
              cases bv
              · have hVo : V = old := by simpa using hbv'.out
                have hVo' := hid hVo
                clear hVo
                cases bu
                · have hUr : U = root := by simpa using hbu'.out
                  have hUr' := hid hUr
                  clear hUr
                  go_wp2_with (first
                    | ((with_reducible refine at_slot (some 81) ?_); refine wpList_load_mid rfl 28 (.tmp 14) rfl g14 0 rfl (byteCells V) _ (by exact h_all hG'.out) Try.underlying28 rfl (by exact hCV.out.size') ?_)
                    | ((with_reducible refine at_slot (some 82) ?_); refine wpList_load_mid rfl 28 (.tmp 6) rfl w.heap.size 0 rfl (byteCells old) _ (by exact h_all hO'.out) Try.underlying28 rfl (by exact hCo.out.size') ?_)
                    | ((with_reducible refine at_slot (some 83) ?_); refine wpList_hneq rfl (.tmp 81) (.tmp 82) _ rfl V old hV0.out ho'.out rfl rfl ?_; rw [hbv'.out])
                    | ((with_reducible refine at_slot (some 85) ?_); refine wpList_load_on (by kernel_rfl) 28 (.tmp 15) rfl g15 0 rfl (byteCells U) _ (by exact h_all hJ'.out) Try.underlying28 rfl (by exact hCU.out.size') ?_)
                    | ((with_reducible refine at_slot (some 86) ?_); refine wpList_load_on (by kernel_rfl) 28 (.tmp 8) rfl (w.heap.size + 1) 0 rfl (byteCells root) _ (by exact h_all hR'.out) Try.underlying28 rfl (by exact hCr.out.size') ?_)
                    | ((with_reducible refine at_slot (some 87) ?_); refine wpList_hneq_on (by kernel_rfl) (.tmp 85) (.tmp 86) _ rfl U root hU0.out hr'.out rfl rfl ?_; rw [hbu'.out])
                    | fail)
                  refine ⟨by simp, .inl ⟨_, _, rfl, run_takeDeferred hK'.out, ?_⟩⟩
                  exact ⟨_, results_tmp rfl _ _ _, by rw [hE2.out, if_pos ⟨hok'.out, hVo'.out, hUr'.out⟩]; rfl, hfin.out⟩
                · have hUr : U ≠ root := by simpa using hbu'.out
                  go_wp2_with (first
                    | ((with_reducible refine at_slot (some 81) ?_); refine wpList_load_mid rfl 28 (.tmp 14) rfl g14 0 rfl (byteCells V) _ (by exact h_all hG'.out) Try.underlying28 rfl (by exact hCV.out.size') ?_)
                    | ((with_reducible refine at_slot (some 82) ?_); refine wpList_load_mid rfl 28 (.tmp 6) rfl w.heap.size 0 rfl (byteCells old) _ (by exact h_all hO'.out) Try.underlying28 rfl (by exact hCo.out.size') ?_)
                    | ((with_reducible refine at_slot (some 83) ?_); refine wpList_hneq rfl (.tmp 81) (.tmp 82) _ rfl V old hV0.out ho'.out rfl rfl ?_; rw [hbv'.out])
                    | ((with_reducible refine at_slot (some 85) ?_); refine wpList_load_on (by kernel_rfl) 28 (.tmp 15) rfl g15 0 rfl (byteCells U) _ (by exact h_all hJ'.out) Try.underlying28 rfl (by exact hCU.out.size') ?_)
                    | ((with_reducible refine at_slot (some 86) ?_); refine wpList_load_on (by kernel_rfl) 28 (.tmp 8) rfl (w.heap.size + 1) 0 rfl (byteCells root) _ (by exact h_all hR'.out) Try.underlying28 rfl (by exact hCr.out.size') ?_)
                    | ((with_reducible refine at_slot (some 87) ?_); refine wpList_hneq_on (by kernel_rfl) (.tmp 85) (.tmp 86) _ rfl U root hU0.out hr'.out rfl rfl ?_; rw [hbu'.out])
                    | fail)
                  refine ⟨by simp, .inl ⟨_, _, rfl, run_takeDeferred hK'.out, ?_⟩⟩
                  exact ⟨_, results_tmp rfl _ _ _, by rw [hE2.out, if_neg (fun h => hUr h.2.2)]; rfl, hfin.out⟩
              · have hVo : V ≠ old := by simpa using hbv'.out
                go_wp2_with (first
                  | ((with_reducible refine at_slot (some 81) ?_); refine wpList_load_mid rfl 28 (.tmp 14) rfl g14 0 rfl (byteCells V) _ (by exact h_all hG'.out) Try.underlying28 rfl (by exact hCV.out.size') ?_)
                  | ((with_reducible refine at_slot (some 82) ?_); refine wpList_load_mid rfl 28 (.tmp 6) rfl w.heap.size 0 rfl (byteCells old) _ (by exact h_all hO'.out) Try.underlying28 rfl (by exact hCo.out.size') ?_)
                  | ((with_reducible refine at_slot (some 83) ?_); refine wpList_hneq rfl (.tmp 81) (.tmp 82) _ rfl V old hV0.out ho'.out rfl rfl ?_; rw [hbv'.out])
                  | fail)
                refine ⟨by simp, .inl ⟨_, _, rfl, run_takeDeferred hK'.out, ?_⟩⟩
                exact ⟨_, results_tmp rfl _ _ _, by rw [hE2.out, if_neg (fun h => hVo h.2.1)]; rfl, hfin.out⟩
            case stop =>
              rintro D c pre W _ _ h _
              exact h.elim

          · skip
            have hK' := hid hK
            clear hK
            rw [if_pos (by kernel_rfl)]
            simp only [ly1, ly2, ly3]
            obtain ⟨g15, hqg15⟩ : ∃ g, g = Wb.heap.size := ⟨_, rfl⟩
            refine wp_run (.pointer (some ⟨g15, 0, none⟩)) (Wb.alloc (.cells z32 28)) (by rw [hqg15]; kernel_rfl) ?_
            have hb_1 := hid (hb_0.out.alloc hb_0.out.size (.cells z32 28))
            have hN1_g15 := hid (show Holds (Wb.alloc (.cells z32 28)) g15 28 (z32).toList from by rw [hqg15]; exact Holds.new Wb _ _)
            have hgeg15 : Wb.heap.size ≤ g15 := by rw [hqg15]; exact hb_0.out.size
            generalize hWg15 : Wb.alloc (.cells z32 28) = W_g15_1 at *
            clear hWg15 hqg15 hb_0
            refine hK'.out _ _ (by exact (hFd.out.below hb_1.out hFd.out.lt)) (fun hHeld => ?_)
            clear hK' K
            refine wpAnyH_ready (rs := [2]) (by kernel_rfl) (by simp) (AllReadyH.cons rfl (fun K hK => ?_) AllReadyH.nil)
            have hK' := hid hK
            clear hK
            rw [if_pos (by kernel_rfl)]
            simp only [ly1, ly2, ly3]
            obtain ⟨g14, hqg14⟩ : ∃ g, g = W_g15_1.heap.size := ⟨_, rfl⟩
            refine wp_run (.pointer (some ⟨g14, 0, none⟩)) (W_g15_1.alloc (.cells z32 28)) (by rw [hqg14]; kernel_rfl) ?_
            have hb_2 := hid (hb_1.out.alloc hb_1.out.size (.cells z32 28))
            have hN2_g14 := hid (show Holds (W_g15_1.alloc (.cells z32 28)) g14 28 (z32).toList from by rw [hqg14]; exact Holds.new W_g15_1 _ _)
            have hgeg14 : Wb.heap.size ≤ g14 := by rw [hqg14]; exact hb_1.out.size
            have hN2_g15 := hid (hN1_g15.out.alloc (.cells z32 28))
            have hne_g14_g15 : g14 ≠ g15 := by have := hN1_g15.out.lt; omega
            generalize hWg14 : W_g15_1.alloc (.cells z32 28) = W_g14_2 at *
            clear hWg14 hqg14 hb_1 hN1_g15
            refine hK'.out _ _ (by exact (hFd.out.below hb_2.out hFd.out.lt)) (fun hHeld => ?_)
            clear hK' K
            refine wpAnyH_ready (rs := [4]) (by kernel_rfl) (by simp) (AllReadyH.cons rfl (fun K hK => ?_) AllReadyH.nil)
            have hK' := hid hK
            clear hK
            rw [if_pos (by kernel_rfl)]
            simp only [ly1, ly2, ly3]
            refine wp_store_mid _ _ _ rfl g14 0 (byteCells f0).toArray rfl rfl (by exact hCf.out.there' hN2_g14.out rfl) (by exact hCf.out.size) (by exact hCf.out.one) ?_
            generalize hX4 : World.setCells _ _ _ _ = X4
            obtain ⟨hG4, hb4⟩ := hCf.out.set hN2_g14.out rfl hX4 hb_2.out (by omega)
            have hG4' := hid hG4
            have hJ4 := hid (holds_far hN2_g15.out (Ne.symm hne_g14_g15) hX4)
            have hb4' := hid hb4
            have hF4 := hid (hFd.out.below hb4 hFd.out.lt)
            clear hX4 hG4 hb4 hb_2 hN2_g14 hN2_g15
            refine hK'.out _ _ (by exact hF4.out) (fun hHeld => ?_)
            clear hK' K
            refine wpAnyH_ready (rs := [5]) (by kernel_rfl) (by simp) (AllReadyH.cons rfl (fun K hK => ?_) AllReadyH.nil)
            have hK' := hid hK
            clear hK
            rw [if_pos (by kernel_rfl)]
            simp only [ly1, ly2, ly3]
            refine wp_store_mid _ _ _ rfl g15 0 (byteCells f0).toArray rfl rfl (by exact hCf.out.there' hJ4.out rfl) (by exact hCf.out.size) (by exact hCf.out.one) ?_
            generalize hX5 : World.setCells _ _ _ _ = W5
            obtain ⟨hJ5, hb5⟩ := hCf.out.set hJ4.out rfl hX5 hb4'.out (by omega)
            have hJ5' := hid hJ5
            have hG5 := hid (holds_far hG4'.out hne_g14_g15 hX5)
            have hF5 := hid (hFd.out.below hb5 hFd.out.lt)
            have hO6 := hid (hOd.out.below hb5 hOd.out.lt)
            have hR6 := hid (hRd.out.below hb5 hRd.out.lt)
            have hB6 := hid (below_up hb5 hBd.out)
            have hat6 := hid (At.below hatd.out (hb5.mono (by have h1 := hz4.out; omega)))
            clear hX5 hJ5 hb5 hb4' hJ4 hG4' hF4
            refine hK'.out _ _ (by exact hF5.out) (fun hHeld => ?_)
            clear hK' K
            refine wpAnyH_done (by kernel_rfl) ?_ _
            refine NoPanic.normal ?_
            clear hHeld
            go_wp2_with (go_at_call 52; refine (up_any _ _ _ _ _ _ _).mono ?_; rintro e W6 ⟨rfl, hW6⟩; have hW6' := hid hW6; clear hW6)
            have hW6 := hW6'.out
            have hz5 : g14 < W5.heap.size := hG5.out.lt
            have hz5' : g15 < W5.heap.size := hJ5'.out.lt
            have hz6 : W6.heap.size = W5.heap.size + 2 := by rw [hW6]; simp
            have hb6 : Below W5.heap.size W5 W6 := by rw [hW6]; exact ((Below.refl _ _).alloc (Nat.le_refl _) _).alloc (by simp) _
            have q1 : W6.cell? ⟨W5.heap.size, 0, none⟩ = some (.slice A1 ts.length d1) := by rw [hW6]; exact ((Holds.new W5 70 #[.slice A1 ts.length d1]).alloc _).cell 0
            have q2 : W6.cell? ⟨W5.heap.size + 1, 0, none⟩ = some (.slice A3 ts.length c3) := by
              have h := (Holds.new (W5.alloc (.cells #[.slice A1 ts.length d1] 70)) 41 #[.slice A3 ts.length c3]).cell 0
              rw [alloc_size] at h
              rw [hW6]
              exact h
            have hG7 := hid (hG5.out.below hb6 hG5.out.lt)
            have hJ7 := hid (hJ5'.out.below hb6 hJ5'.out.lt)
            have hO7 := hid (hO6.out.below hb6 hO6.out.lt)
            have hR7 := hid (hR6.out.below hb6 hR6.out.lt)
            have hB7 := hid (below_up hb6 hB6.out)
            have hwz := hw1.out
            have hz4' := hz4.out
            have hat7 := At.below hat6.out (hb6.mono (by omega))
            have hP7 := hP3.out W6 hB7.out
            have hl' := hid hP7.len
            have hstops := hid (up_stops 8 W6.heap.size g14 g15 W5.heap.size (W5.heap.size + 1) (by omega) (by omega) (by omega) (by omega) (by omega) (by omega) A1 ts.length d1 ts A3 c3 hsx rfl hl'.out hP7.2 (by omega) W6 (Nat.le_refl _) q1 q2
              (fun j t ht => by
                have hj := (List.getElem?_eq_some_iff.1 ht).1
                obtain ⟨p, t', hA, hpB, -, ht', hc⟩ := turns_get hat7 rfl hj
                obtain rfl : t' = t := Option.some.inj (ht'.symm.trans ht)
                exact ⟨p, hA, by omega, by omega, by omega, hc⟩)
              (fun j y hy => by
                have hj := (List.getElem?_eq_some_iff.1 hy).1
                have hlz := hl'.out
                obtain ⟨p, y', hA, hpB, -, hy', -, hc⟩ := hP7.get (show j < ts.length by omega)
                obtain rfl : y' = y := Option.some.inj (hy'.symm.trans hy)
                exact ⟨p, hA, by omega, by omega, by omega, hc⟩))
            have hz6' := hid hz6
            have hzb := hid hwzb
            clear hW6 hb6 q1 q2 hat7 hP7 hz6 hz4'
            refine (wpIn_wide (n := 10)).1 ?_
            refine wpIn_rangeFunc_ownH rfl (by omega) (gf := 64) (lb := #[.pointer (some ⟨W5.heap.size, 0, none⟩), .pointer (some ⟨W5.heap.size + 1, 0, none⟩)]) rfl trivial (enters_of Try.func64 (by kernel_rfl) rfl)
              hstops.out KeepE.trans (KeepE.put (Nat.le_refl _)) (Below.refl _ _) (fun _ => rfl)
              (fun pre W => (Holds W g15 28 (byteCells (upSo f0 pre)) ∧ Holds W g14 28 (byteCells (befSo f0 pre)) ∧ Holds W w.heap.size 28 (byteCells old) ∧ Holds W (w.heap.size + 1) 28 (byteCells root) ∧ W6.heap.size ≤ W.heap.size) ∧ Below w.heap.size w W)
              (fun _ _ _ => False)
              (OwnFrom.and (Own.from (fun s A B row hs hg hr => ⟨holds_kept hs.1 hg hr, holds_kept hs.2.1 hg hr, holds_kept hs.2.2.1 hg hr, holds_kept hs.2.2.2.1 hg hr, Nat.le_trans hs.2.2.2.2 hg.size⟩) _) (ownFrom_below (Nat.le_refl _) (by have h1 := hz6'.out; have h2 := hz4.out; have h3 := hzb.out; omega)))
              (fun _ _ _ _ _ hs _ _ => hs)
              ⟨⟨hJ7.out, hG7.out, hO7.out, hR7.out, Nat.le_refl _⟩, hB7.out⟩
              (fun y a' W => ∃ b1 b2, a' = { tmps := #[.int .i64 (m : Int), .agg (byteCells old).toArray, .int .i64 (n : Int), .agg (byteCells root).toArray, .slice A3 ts.length c3, undef, .pointer (some ⟨w.heap.size, 0, none⟩), undef, .pointer (some ⟨w.heap.size + 1, 0, none⟩), undef, .int .i64 0, .slice A1 ts.length d1, .pointer (some ⟨W1.heap.size, 0, none⟩), .pointer (some ⟨W2.heap.size, 0, none⟩), .pointer (some ⟨g14, 0, none⟩), .pointer (some ⟨g15, 0, none⟩), .pointer (some ⟨b1, 0, none⟩), .pointer (some ⟨b2, 0, none⟩), .int .i64 (n : Int), .bool false, .bool false, .int .i64 (n : Int), .bool false, .bool false, .bool false, .int .i64 (m : Int), .bool false, .bool false, .bool false, .int .i64 (m : Int), .int .i64 (n : Int), .bool false, .bool false, .tuple #[.slice A1 ts.length d1, .agg #[.int .i64 (e1 : Int), .int .i64 (e2 : Int)]], .int .i64 (m : Int), .int .i64 (n : Int), .int .i64 (m : Int), .func (.func 65) #[] #[.pointer (some ⟨w.heap.size + 1 + 1, 0, none⟩)], .tuple #[.slice A1 ts.length d1, .agg #[.int .i64 (e1 : Int), .int .i64 (e2 : Int)]], .slice A1 ts.length d1, .agg #[.int .i64 (e1 : Int), .int .i64 (e2 : Int)], .agg (byteCells old).toArray, .pointer (some ⟨W1.heap.size, 0, none⟩), .int .i64 (e1 : Int), .bool true, .bool true, .slice (some p) (ts.length + 1) (c3 + 1), .int .i64 ((ts.length : Int) + 1), .bool true, .bool true, .slice (some p) (ts.length + 1) (c3 + 1), .pointer (some p), .agg (byteCells f0).toArray, .slice (some p) (ts.length + 1) (c3 + 1), .slice A3 ts.length c3, undef, undef, undef, .slice A3 ts.length c3, .int .i64 (ts.length : Int), .slice A1 ts.length d1, .int .i64 (ts.length : Int), .bool false, .agg (byteCells f0).toArray, .agg (byteCells f0).toArray, .slice A1 ts.length d1, .slice A3 ts.length c3, .func (.func 64) #[] #[.pointer (some ⟨W5.heap.size, 0, none⟩), .pointer (some ⟨W5.heap.size + 1, 0, none⟩)], .agg #[.bool y.1.1.left, .int .i64 (y.1.1.lo : Int), .int .i64 (y.1.1.hi : Int)], .agg (byteCells y.1.2).toArray, undef, undef, undef, undef, undef, undef, undef, undef, undef, undef, undef, undef, undef, undef, undef, undef, undef, undef, undef], defers := [] } ∧ W6.heap.size ≤ b1 ∧ W6.heap.size ≤ b2 ∧ Holds W b1 82 (turnC y.1.1) ∧ Holds W b2 28 (byteCells y.1.2))
              (fun y a' _ A B row hs hg hr => by
                obtain ⟨b1, b2, h1, h2, h3, h4, h5⟩ := hs
                exact ⟨b1, b2, h1, h2, h3, holds_kept h4 hg (fun r e => (hr r e).2), holds_kept h5 hg (fun r e => (hr r e).2)⟩) ?assign ?body ?done ?stop
            case assign =>
              rintro l pre y W K ⟨⟨hJ, hG, hO, hR, hsz⟩, hB⟩ hK
              have hCx := hid (hash_cells y.1.2 y.2)
              unfold turnV hv
              gi_wp2_with (first
                | ((with_reducible refine at_slotIn (some 17) ?_); refine wpListIn_run rfl (fun c e => by cases e) rfl (.pointer (some ⟨(W.alloc (.cells #[.bool y.1.1.left, .int .i64 (y.1.1.lo : Int), .int .i64 (y.1.1.hi : Int)] 82)).heap.size, 0, none⟩)) ((W.alloc (.cells #[.bool y.1.1.left, .int .i64 (y.1.1.lo : Int), .int .i64 (y.1.1.hi : Int)] 82)).alloc (.cells z32 28)) (by kernel_rfl) ?_)
                | ((with_reducible refine at_slotIn none ?_); refine wpListIn_store_mid rfl 28 (.tmp 17) (.tmp 69) rfl (W.alloc (.cells #[.bool y.1.1.left, .int .i64 (y.1.1.lo : Int), .int .i64 (y.1.1.hi : Int)] 82)).heap.size 0 (byteCells y.1.2).toArray rfl rfl (by exact hCx.out.there _) (by exact hCx.out.size) (by exact hCx.out.one) ?_)
                | fail)
              obtain ⟨Wq, hWq⟩ : ∃ Wq, W.alloc (.cells #[.bool y.1.1.left, .int .i64 (y.1.1.lo : Int), .int .i64 (y.1.1.hi : Int)] 82) = Wq := ⟨_, rfl⟩
              have hzq : Wq.heap.size = W.heap.size + 1 := by rw [← hWq]; simp
              have hbq : Below W.heap.size W Wq := by rw [← hWq]; exact (Below.refl _ _).alloc (Nat.le_refl _) _
              have hT : Holds Wq W.heap.size 82 (turnC y.1.1) := by rw [← hWq]; exact Holds.new W _ _
              rw [hWq]
              obtain ⟨W', hW'⟩ : ∃ W', (Wq.alloc (.cells z32 28)).setCells Wq.heap.size 0 (byteCells y.1.2) = W' := ⟨_, rfl⟩
              obtain ⟨hX, hbx⟩ := hCx.out.new hW'
              rw [hzq] at hW' hX
              rw [hW']
              have hb' : Below W.heap.size W W' := hbq.trans (hbx.mono (by omega))
              refine hK _ _ ⟨hb'.size, fun i o _ hi _ => (hb'.block i (Array.getElem?_eq_some_iff.1 hi).1).trans hi⟩ (KeepE.below hsz hb') ⟨⟨hJ.below hb' hJ.lt, hG.below hb' hG.lt, hO.below hb' hO.lt, hR.below hb' hR.lt, Nat.le_trans hsz hb'.size⟩, hB.trans (hb'.mono hB.size)⟩ ⟨W.heap.size, W.heap.size + 1, rfl, hsz, by omega, hT.below hbx hT.lt, hX⟩
            case body =>
              rintro l pre ⟨⟨⟨left, lo, hi⟩, xh⟩, hxl⟩ a' W hl ⟨r0, hr0⟩ ⟨⟨hJ, hG, hO, hR, hsz⟩, hB⟩ ⟨b1, b2, rfl, hb1, hb2, hT, hX⟩ hlt
              dsimp only at hT hX hxl ⊢
              have hu32 := upSo_len _ hf32.out pre
              have hv32 := befSo_len _ hf32.out pre
              have hj := hid (fun W => join_any ⟨left, lo, hi⟩ (upSo f0 pre) xh hu32 hxl W)
              have hjb := hid (fun W => join_any ⟨left, lo, hi⟩ (befSo f0 pre) xh hv32 hxl W)
              have hCn := hid (hash_cells _ (oneUp_len ⟨left, lo, hi⟩ (upSo f0 pre) xh))
              have hCb := hid (hash_cells _ (oneUp_len ⟨left, lo, hi⟩ (befSo f0 pre) xh))
              have hsn := hid (upSo_snoc f0 pre ⟨⟨⟨left, lo, hi⟩, xh⟩, hxl⟩)
              have hsb := hid (befSo_snoc f0 pre ⟨⟨⟨left, lo, hi⟩, xh⟩, hxl⟩)
              have hi1 : (Try.prog.info? 28).map (·.size) = some (byteCells xh).length := (hash_cells xh hxl).size'
              have hi2 : (Try.prog.info? 28).map (·.size) = some (byteCells (upSo f0 pre)).length := (hash_cells _ hu32).size'
              have hi3 : (Try.prog.info? 28).map (·.size) = some (byteCells (befSo f0 pre)).length := (hash_cells _ hv32).size'
              have hul : (byteCells (upSo f0 pre)).length = 32 := (hash_cells _ hu32).len
              have hvl : (byteCells (befSo f0 pre)).length = 32 := (hash_cells _ hv32).len
              have hnb := hid (show left = false → Mth.oneUp nodeH ⟨left, lo, hi⟩ (befSo f0 pre) xh = nodeH xh (befSo f0 pre) from fun h => by simp [Mth.oneUp, h])
              dsimp only at hsn hsb
              unfold hv turnV at hj hjb
              have hJ' := hid hJ
              have hG' := hid hG
              have hO' := hid hO
              have hR' := hid hR
              have hB' := hid hB
              have hX' := hid hX
              have hT' := hid hT
              have hwz := hw1.out
              generalize Mth.oneUp nodeH ⟨left, lo, hi⟩ (upSo f0 pre) xh = nd at *
              generalize Mth.oneUp nodeH ⟨left, lo, hi⟩ (befSo f0 pre) xh = nb at *
              clear hJ hG hO hR hB hX hT
              have hn14 : w.heap.size + 1 < g14 := by have h1 := hz4.out; have h2 := hzb.out; omega
              have hn15 : w.heap.size + 1 < g15 := by have h1 := hz4.out; have h2 := hzb.out; omega
              have hb14 : g14 < b1 := by have h1 := hz6'.out; omega
              have hb15 : g15 < b1 := by have h1 := hz6'.out; omega
              have hc14 : g14 < b2 := by have h1 := hz6'.out; omega
              have hc15 : g15 < b2 := by have h1 := hz6'.out; omega
              cases left
              · skip
                gi_wp2_with (first
                    | ((with_reducible refine at_slotIn (some 70) ?_); refine wpListIn_load_mid rfl 82 (.tmp 16) rfl b1 0 rfl [.bool false, .int .i64 (lo : Int), .int .i64 (hi : Int)] _ (by exact h_all hT'.out) Try.underlying82 rfl (by kernel_rfl) ?_)
                    | ((with_reducible refine at_slotIn (some 71) ?_); refine wpListIn_load_mid rfl 28 (.tmp 15) rfl g15 0 rfl (byteCells (upSo f0 pre)) _ (by exact h_all hJ'.out) Try.underlying28 rfl (by exact hi2) ?_)
                    | ((with_reducible refine at_slotIn (some 72) ?_); refine wpListIn_load_mid rfl 28 (.tmp 17) rfl b2 0 rfl (byteCells xh) _ (by exact h_all hX'.out) Try.underlying28 rfl (by exact hi1) ?_)
                    | fail)
                refine ⟨trivial, (CallsIn.inRound l (callsIn_wide.2 (hj.out W))).mono ?_⟩
                rintro e W7 ⟨rfl, hb7⟩
                have hJ7 := hid (hJ'.out.below hb7 hJ'.out.lt)
                have hG7 := hid (hG'.out.below hb7 hG'.out.lt)
                have hO7 := hid (hO'.out.below hb7 hO'.out.lt)
                have hR7 := hid (hR'.out.below hb7 hR'.out.lt)
                have hT7 := hid (hT'.out.below hb7 hT'.out.lt)
                have hX7 := hid (hX'.out.below hb7 hX'.out.lt)
                have hb7' := hid hb7
                clear hb7
                gi_wp2_with (first
                  | ((with_reducible refine at_slotIn none ?_); refine wpListIn_store_mid rfl 28 (.tmp 15) (.tmp 73) rfl g15 0 (byteCells nd).toArray rfl rfl (by exact hCn.out.there' hJ7.out hul) (by exact hCn.out.size) (by exact hCn.out.one) ?_; generalize hW8 : World.setCells _ _ _ _ = W8; obtain ⟨hJ8, hB8⟩ := hCn.out.set (w := w) hJ7.out hul hW8 (hB'.out.trans (hb7'.out.mono hB'.out.size)) (by omega); have hJ8' := hid hJ8; have hB8' := hid hB8; have hG8 := hid (holds_far hG7.out hne_g14_g15 hW8); have hO8 := hid (holds_far hO7.out (by omega) hW8); have hR8 := hid (holds_far hR7.out (by omega) hW8); have hT8 := hid (holds_far hT7.out (by omega) hW8); have hX8 := hid (holds_far hX7.out (by omega) hW8); have ct : W8.cell? ⟨b1, 0, none⟩ = some (.bool false) := hT8.out.cell 0; have hg8 := hid (grown_put (g := g15) hb7'.out hW8); clear hW8 hJ8 hB8)
                  | ((with_reducible refine at_slotIn (some 77) ?_); refine wpListIn_load_mid rfl 82 (.tmp 16) rfl b1 0 rfl [.bool false, .int .i64 (lo : Int), .int .i64 (hi : Int)] _ (by exact h_all hT8.out) Try.underlying82 rfl (by kernel_rfl) ?_)
                  | ((with_reducible refine at_slotIn (some 78) ?_); refine wpListIn_load_mid rfl 28 (.tmp 14) rfl g14 0 rfl (byteCells (befSo f0 pre)) _ (by exact h_all hG8.out) Try.underlying28 rfl (by exact hi3) ?_)
                  | ((with_reducible refine at_slotIn (some 79) ?_); refine wpListIn_load_mid rfl 28 (.tmp 17) rfl b2 0 rfl (byteCells xh) _ (by exact h_all hX8.out) Try.underlying28 rfl (by exact hi1) ?_)
                  | fail)
                refine ⟨trivial, (CallsIn.inRound l (callsIn_wide.2 (hjb.out W8))).mono ?_⟩
                rintro e W9 ⟨rfl, hb9⟩
                have hJ9 := hid (hJ8'.out.below hb9 hJ8'.out.lt)
                have hG9 := hid (hG8.out.below hb9 hG8.out.lt)
                have hO9 := hid (hO8.out.below hb9 hO8.out.lt)
                have hR9 := hid (hR8.out.below hb9 hR8.out.lt)
                have hb9' := hid hb9
                clear hb9
                gi_wp2_with (first
                  | ((with_reducible refine at_slotIn none ?_); refine wpListIn_store_mid rfl 28 (.tmp 14) (.tmp 80) rfl g14 0 (byteCells nb).toArray rfl rfl (by exact hCb.out.there' hG9.out hvl) (by exact hCb.out.size) (by exact hCb.out.one) ?_)
                  | fail)
                obtain ⟨W10, hW10⟩ : ∃ W10, W9.setCells g14 0 (byteCells nb) = W10 := ⟨_, rfl⟩
                rw [hW10]
                obtain ⟨hG10, hB10⟩ := hCb.out.set (w := w) hG9.out hvl hW10 (hB8'.out.trans (hb9'.out.mono hB8'.out.size)) (by omega)
                have hJ10 := holds_far hJ9.out (Ne.symm hne_g14_g15) hW10
                have hO10 := holds_far hO9.out (show w.heap.size ≠ g14 by omega) hW10
                have hR10 := holds_far hR9.out (show w.heap.size + 1 ≠ g14 by omega) hW10
                have hg10 := grown_put (g := g14) hb9'.out hW10
                have hsz8 := Nat.le_trans hsz hg8.out.size
                refine ⟨(KeepsFrom.of_grownBy hg8.out (fun j e => by have := Option.some.inj e; have h1 := hz6'.out; omega)).trans (KeepsFrom.of_grownBy hg10 (fun j e => by have := Option.some.inj e; have h1 := hz6'.out; omega)), (KeepE.grown2 hsz hg8.out).trans (KeepE.grown1 hsz8 hg10), ⟨?_, ?_, hO10, hR10, Nat.le_trans hsz8 hg10.size⟩, hB10⟩
                · rw [hsn.out]
                  exact hJ10
                · rw [hsb.out, if_neg (by simp), ← hnb.out (by first | rfl | trivial)]
                  exact hG10
              · skip
                gi_wp2_with (first
                    | ((with_reducible refine at_slotIn (some 70) ?_); refine wpListIn_load_mid rfl 82 (.tmp 16) rfl b1 0 rfl [.bool true, .int .i64 (lo : Int), .int .i64 (hi : Int)] _ (by exact h_all hT'.out) Try.underlying82 rfl (by kernel_rfl) ?_)
                    | ((with_reducible refine at_slotIn (some 71) ?_); refine wpListIn_load_mid rfl 28 (.tmp 15) rfl g15 0 rfl (byteCells (upSo f0 pre)) _ (by exact h_all hJ'.out) Try.underlying28 rfl (by exact hi2) ?_)
                    | ((with_reducible refine at_slotIn (some 72) ?_); refine wpListIn_load_mid rfl 28 (.tmp 17) rfl b2 0 rfl (byteCells xh) _ (by exact h_all hX'.out) Try.underlying28 rfl (by exact hi1) ?_)
                    | fail)
                refine ⟨trivial, (CallsIn.inRound l (callsIn_wide.2 (hj.out W))).mono ?_⟩
                rintro e W7 ⟨rfl, hb7⟩
                have hJ7 := hid (hJ'.out.below hb7 hJ'.out.lt)
                have hG7 := hid (hG'.out.below hb7 hG'.out.lt)
                have hO7 := hid (hO'.out.below hb7 hO'.out.lt)
                have hR7 := hid (hR'.out.below hb7 hR'.out.lt)
                have hT7 := hid (hT'.out.below hb7 hT'.out.lt)
                have hX7 := hid (hX'.out.below hb7 hX'.out.lt)
                have hb7' := hid hb7
                clear hb7
                gi_wp2_with (first
                  | ((with_reducible refine at_slotIn none ?_); refine wpListIn_store_mid rfl 28 (.tmp 15) (.tmp 73) rfl g15 0 (byteCells nd).toArray rfl rfl (by exact hCn.out.there' hJ7.out hul) (by exact hCn.out.size) (by exact hCn.out.one) ?_; generalize hW8 : World.setCells _ _ _ _ = W8; obtain ⟨hJ8, hB8⟩ := hCn.out.set (w := w) hJ7.out hul hW8 (hB'.out.trans (hb7'.out.mono hB'.out.size)) (by omega); have hJ8' := hid hJ8; have hB8' := hid hB8; have hG8 := hid (holds_far hG7.out hne_g14_g15 hW8); have hO8 := hid (holds_far hO7.out (by omega) hW8); have hR8 := hid (holds_far hR7.out (by omega) hW8); have hT8 := hid (holds_far hT7.out (by omega) hW8); have hX8 := hid (holds_far hX7.out (by omega) hW8); have ct : W8.cell? ⟨b1, 0, none⟩ = some (.bool true) := hT8.out.cell 0; have hg8 := hid (grown_put (g := g15) hb7'.out hW8); clear hW8 hJ8 hB8)
                  | fail)
                refine ⟨KeepsFrom.of_grownBy hg8.out (fun j e => by have := Option.some.inj e; have h1 := hz6'.out; omega), KeepE.grown2 hsz hg8.out, ⟨?_, ?_, hO8.out, hR8.out, Nat.le_trans hsz hg8.out.size⟩, hB8'.out⟩
                · rw [hsn.out]
                  exact hJ8'.out
                · rw [hsb.out, if_pos (by first | rfl | trivial)]
                  exact hG8.out
            case done =>
              rintro D ys W hD hys ⟨⟨hJ, hG, hO, hR, hsz⟩, hB⟩ hK
              have hU32 := upSo_len _ hf32.out ys
              have hV32 := befSo_len _ hf32.out ys
              rw [upSo_all f0 ts hsx hl'.out.symm ys hys] at hJ hU32
              rw [befSo_all f0 ts hsx hl'.out.symm ys hys] at hG hV32
              obtain ⟨hV, hU⟩ := y2r.out (by first | rfl | trivial)
              have hok := y1r.out.2 (by first | rfl | trivial)
              have hE1 := hE'.out
              rw [hV, hU] at hE1
              have hE2 := hid hE1
              have hok' := hid hok
              have hK' := hid hK
              have hJ' := hid hJ
              have hG' := hid hG
              have hO' := hid hO
              have hR' := hid hR
              have hB' := hid hB
              have hwD := hid (show w.heap.size ≤ D from by have h1 := hD; have h2 := hz6'.out; have h3 := hw1.out; have h4 := hz4.out; have h5 := hzb.out; omega)
              generalize Mth.upAll nodeH f0 ts hsx = U at *
              generalize Mth.befAll nodeH f0 ts hsx = V at *
              have hCU := hid (hash_cells U hU32)
              have hCV := hid (hash_cells V hV32)
              have hU0 := hid hU32
              have hV0 := hid hV32
              clear hK hJ hG hO hR hB hU hV hok hE1 hU32 hV32 hys hD
              have hfin := hid (show Below w.heap.size w (W.putObj D (.deferred none)) from hB'.out.trans (belowK_b (w := w) (Nat.le_refl _) W D _ _ hwD.out hK'.out rfl rfl))
              obtain ⟨bv, hbv⟩ : ∃ b, (!(V == old)) = b := ⟨_, rfl⟩
              obtain ⟨bu, hbu⟩ : ∃ b, (!(U == root)) = b := ⟨_, rfl⟩
              have hbv' := hid hbv
              have hbu' := hid hbu
              clear hbv hbu
              cases bv
              · have hVo : V = old := by simpa using hbv'.out
                have hVo' := hid hVo
                clear hVo
                cases bu
                · have hUr : U = root := by simpa using hbu'.out
                  have hUr' := hid hUr
                  clear hUr
                  go_wp2_with (first
                    | ((with_reducible refine at_slot (some 81) ?_); refine wpList_load_mid rfl 28 (.tmp 14) rfl g14 0 rfl (byteCells V) _ (by exact h_all hG'.out) Try.underlying28 rfl (by exact hCV.out.size') ?_)
                    | ((with_reducible refine at_slot (some 82) ?_); refine wpList_load_mid rfl 28 (.tmp 6) rfl w.heap.size 0 rfl (byteCells old) _ (by exact h_all hO'.out) Try.underlying28 rfl (by exact hCo.out.size') ?_)
                    | ((with_reducible refine at_slot (some 83) ?_); refine wpList_hneq rfl (.tmp 81) (.tmp 82) _ rfl V old hV0.out ho'.out rfl rfl ?_; rw [hbv'.out])
                    | ((with_reducible refine at_slot (some 85) ?_); refine wpList_load_on (by kernel_rfl) 28 (.tmp 15) rfl g15 0 rfl (byteCells U) _ (by exact h_all hJ'.out) Try.underlying28 rfl (by exact hCU.out.size') ?_)
                    | ((with_reducible refine at_slot (some 86) ?_); refine wpList_load_on (by kernel_rfl) 28 (.tmp 8) rfl (w.heap.size + 1) 0 rfl (byteCells root) _ (by exact h_all hR'.out) Try.underlying28 rfl (by exact hCr.out.size') ?_)
                    | ((with_reducible refine at_slot (some 87) ?_); refine wpList_hneq_on (by kernel_rfl) (.tmp 85) (.tmp 86) _ rfl U root hU0.out hr'.out rfl rfl ?_; rw [hbu'.out])
                    | fail)
                  refine ⟨by simp, .inl ⟨_, _, rfl, run_takeDeferred hK'.out, ?_⟩⟩
                  exact ⟨_, results_tmp rfl _ _ _, by rw [hE2.out, if_pos ⟨hok'.out, hVo'.out, hUr'.out⟩]; rfl, hfin.out⟩
                · have hUr : U ≠ root := by simpa using hbu'.out
                  go_wp2_with (first
                    | ((with_reducible refine at_slot (some 81) ?_); refine wpList_load_mid rfl 28 (.tmp 14) rfl g14 0 rfl (byteCells V) _ (by exact h_all hG'.out) Try.underlying28 rfl (by exact hCV.out.size') ?_)
                    | ((with_reducible refine at_slot (some 82) ?_); refine wpList_load_mid rfl 28 (.tmp 6) rfl w.heap.size 0 rfl (byteCells old) _ (by exact h_all hO'.out) Try.underlying28 rfl (by exact hCo.out.size') ?_)
                    | ((with_reducible refine at_slot (some 83) ?_); refine wpList_hneq rfl (.tmp 81) (.tmp 82) _ rfl V old hV0.out ho'.out rfl rfl ?_; rw [hbv'.out])
                    | ((with_reducible refine at_slot (some 85) ?_); refine wpList_load_on (by kernel_rfl) 28 (.tmp 15) rfl g15 0 rfl (byteCells U) _ (by exact h_all hJ'.out) Try.underlying28 rfl (by exact hCU.out.size') ?_)
                    | ((with_reducible refine at_slot (some 86) ?_); refine wpList_load_on (by kernel_rfl) 28 (.tmp 8) rfl (w.heap.size + 1) 0 rfl (byteCells root) _ (by exact h_all hR'.out) Try.underlying28 rfl (by exact hCr.out.size') ?_)
                    | ((with_reducible refine at_slot (some 87) ?_); refine wpList_hneq_on (by kernel_rfl) (.tmp 85) (.tmp 86) _ rfl U root hU0.out hr'.out rfl rfl ?_; rw [hbu'.out])
                    | fail)
                  refine ⟨by simp, .inl ⟨_, _, rfl, run_takeDeferred hK'.out, ?_⟩⟩
                  exact ⟨_, results_tmp rfl _ _ _, by rw [hE2.out, if_neg (fun h => hUr h.2.2)]; rfl, hfin.out⟩
              · have hVo : V ≠ old := by simpa using hbv'.out
                go_wp2_with (first
                  | ((with_reducible refine at_slot (some 81) ?_); refine wpList_load_mid rfl 28 (.tmp 14) rfl g14 0 rfl (byteCells V) _ (by exact h_all hG'.out) Try.underlying28 rfl (by exact hCV.out.size') ?_)
                  | ((with_reducible refine at_slot (some 82) ?_); refine wpList_load_mid rfl 28 (.tmp 6) rfl w.heap.size 0 rfl (byteCells old) _ (by exact h_all hO'.out) Try.underlying28 rfl (by exact hCo.out.size') ?_)
                  | ((with_reducible refine at_slot (some 83) ?_); refine wpList_hneq rfl (.tmp 81) (.tmp 82) _ rfl V old hV0.out ho'.out rfl rfl ?_; rw [hbv'.out])
                  | fail)
                refine ⟨by simp, .inl ⟨_, _, rfl, run_takeDeferred hK'.out, ?_⟩⟩
                exact ⟨_, results_tmp rfl _ _ _, by rw [hE2.out, if_neg (fun h => hVo h.2.1)]; rfl, hfin.out⟩
            case stop =>
              rintro D c pre W _ _ h _
              exact h.elim
        · have hli : ¬ (qr : Int) = (ts.length : Int) := by omega
          have hno : ¬ (R.2.2 = true ∧ R.1 = old ∧ R.2.1 = root) := fun h => hlen (y1r.out.1 h.1)
          go_wp2_with (first
            | ((with_reducible refine at_slot (some 41) ?_); generalize hW2 : W1.alloc (.cells #[.int .i64 (e1 : Int), .int .i64 (e2 : Int)] 72) = W2 at *; clear hW2; have c0 : W2.cell? ⟨W1.heap.size, 0, none⟩ = some (.int .i64 (e1 : Int)) := hE4.out.cell 0; refine wpList_load_mid rfl 28 (.tmp 6) rfl w.heap.size 0 rfl (byteCells old) _ (by exact h_all hO4.out) Try.underlying28 rfl (by exact hCo.out.size') ?_)
            | ((with_reducible refine at_slot (some 13) ?_); refine wpList_run rfl (.pointer (some ⟨W2.heap.size, 0, none⟩)) (W2.alloc (.cells z32 28)) (by kernel_rfl) ?_)
            | ((with_reducible refine at_slot none ?_); refine wpList_store_mid rfl 28 (.tmp 13) (.tmp 41) rfl W2.heap.size 0 (byteCells old).toArray rfl rfl (by exact hCo.out.there W2) (by exact hCo.out.size) (by exact hCo.out.one) ?_; generalize hW3 : World.setCells _ _ _ _ = W3; obtain ⟨hF5, hb5⟩ := hCo.out.new hW3; have hF5' := hid hF5; have hO5 := hid (hO4.out.below hb5 hO4.out.lt); have hR5 := hid (hR4.out.below hb5 hR4.out.lt); have hB5 := hid (below_up hb5 hB4.out); have hat5 := hid (At.below hat4.out (hb5.mono (by have := hz4.out; omega))); have c0 : W3.cell? ⟨W1.heap.size, 0, none⟩ = some (.int .i64 (e1 : Int)) := ((hE4.out.below hb5 hE4.out.lt).cell 0); clear hW3 hF5 hb5)
            | fail)
          have hdr : Below W3.heap.size W3 W3.drew := (Below.refl _ _).drew
          have hF6 := hid (hF5'.out.below hdr hF5'.out.lt)
          have hO6 := hid (hO5.out.below hdr hO5.out.lt)
          have hR6 := hid (hR5.out.below hdr hR5.out.lt)
          have hB6 := hid (below_up hdr hB5.out)
          have hat6 := hid (At.below hat5.out (hdr.mono (by have h1 := hz4.out; have h2 := hF5'.out.lt; omega)))
          have hE6 := hid (show W3.drew.cell? ⟨W1.heap.size, 0, none⟩ = some (.int .i64 (e1 : Int)) from c0)
          have hF5lt := hF5'.out.lt
          clear hdr hF5' hO5 hR5 hB5 hat5 c0
          refine wp_region_noPanic ?_
          refine wp_region_held_drew (S := fun W => CellsAt W p (byteCells f0)) (by kernel_rfl) (by exact (hcp'.out _ hB6.out)) (fun hHeld => ?_)
          generalize W3.drew = Wb at *
          refine wpAnyH_take (i := 0) (v := .slice (some p) (qr + 1) (c3 + 1)) rfl (by kernel_rfl) (by kernel_rfl) (by kernel_rfl) (fun _ _ _ h => h) (yieldsIf_move _ rfl rfl rfl) hHeld ?_
          simp only [ly1, ly2, ly3, Act.put, ly5, ly6, ly7]
          refine wpAnyH_take (i := 1) (v := .pointer (some p)) rfl (by kernel_rfl) (by kernel_rfl) (by kernel_rfl) (fun _ _ _ h => h) (.inl ⟨by kernel_rfl, fun w _ => by go_simp⟩) hHeld ?_
          simp only [ly1, ly2, ly3, Act.put, ly5, ly6, ly7]
          refine wpAnyH_take (i := 2) (v := .agg (byteCells f0).toArray) rfl (by kernel_rfl) (by kernel_rfl) (by kernel_rfl) (fun _ _ _ h => h) (yieldsIf_load_far (by kernel_rfl) _ _ rfl p rfl _ _ (fun W h => h) Try.underlying28 rfl (by exact hCf.out.size')) hHeld ?_
          simp only [ly1, ly2, ly3, Act.put, ly5, ly6, ly7]
          refine wpAnyH_take (i := 3) (v := .slice (some p) (qr + 1) (c3 + 1)) rfl (by kernel_rfl) (by kernel_rfl) (by kernel_rfl) (fun _ _ _ h => h) (yieldsIf_move _ rfl rfl rfl) hHeld ?_
          simp only [ly1, ly2, ly3, Act.put, ly5, ly6, ly7]
          refine wpAnyH_take (i := 4) (v := .slice A3 qr c3) rfl (by kernel_rfl) (by kernel_rfl) (by kernel_rfl) (fun _ _ _ h => h) (.inl ⟨by kernel_rfl, fun w _ => Or.elim (Nat.eq_zero_or_pos c3) (fun hz => by have e := hA3a'.out hz; subst hz; rw [e]; go_simp; try omega) (fun hz => by have e := hA3b'.out (by omega); have hz' : ¬ c3 = 0 := (by omega); rw [e] <;> go_simp)⟩) hHeld ?_
          simp only [ly1, ly2, ly3, Act.put, ly5, ly6, ly7]
          refine wpAnyH_ready (rs := [5]) (by kernel_rfl) (by simp) (AllReadyH.cons rfl (fun K hK => ?_) AllReadyH.nil)
          have hK' := hid hK
          clear hK
          rw [if_pos (by kernel_rfl)]
          simp only [ly1, ly2, ly3]
          refine wp_store_mid _ _ _ rfl W2.heap.size 0 (byteCells f0).toArray rfl rfl (by exact hCf.out.there' hF6.out (by rw [hCo.out.len])) (by exact hCf.out.size) (by exact hCf.out.one) ?_
          generalize hX7 : World.setCells _ _ _ _ = X7
          have hw1x := hw1.out
          have hz4x := hz4.out
          have hF7 : Holds X7 W2.heap.size 28 (byteCells f0) := by
            subst hX7
            have h1 := hF6.out.put 0 (byteCells f0) (by rw [hCf.out.len, hCo.out.len]; decide)
            rw [put_all _ _ (by rw [hCf.out.len, hCo.out.len])] at h1
            exact h1
          have hF5' := hid hF7
          have hO5 := hid (holds_far hO6.out (by omega) hX7)
          have hR5 := hid (holds_far hR6.out (by omega) hX7)
          have hB5 := hid (below_put hB6.out (by omega) hX7)
          have hat5 := hid (At.below hat6.out (show Below W1.heap.size _ X7 from below_put (Below.refl _ _) (by omega) hX7))
          have c0 : X7.cell? ⟨W1.heap.size, 0, none⟩ = some (.int .i64 (e1 : Int)) := by
            rw [← hX7]
            exact (World.cell?_of_block (cells_far _ _ _ _ _ (show W1.heap.size ≠ W2.heap.size by omega))).trans hE6.out
          clear hF6 hO6 hR6 hB6 hat6 hE6 hX7 hF7 hw1x hz4x
          refine hK'.out _ _ (by exact (hcp'.out _ hB5.out)) (fun hHeld => ?_)
          clear hK' K
          refine wpAnyH_take (i := 6) (v := .slice A3 qr c3) rfl (by kernel_rfl) (by kernel_rfl) (by kernel_rfl) (fun _ _ _ h => h) (yieldsIf_assign _ rfl rfl rfl) hHeld ?_
          simp only [ly1, ly2, ly3, Act.put, ly5, ly6, ly7]
          refine wpAnyH_done (by kernel_rfl) ?_ _
          refine NoPanic.normal ?_
          clear hHeld
          generalize X7 = W3 at *
          go_wp2_with fail
          exact ⟨_, results_tmp rfl _ _ _, by rw [hE'.out, if_neg hno]; rfl, hB5.out⟩
    · have h1i : ¬ (0 : Int) < (e1 : Int) := by omega
      have hah : Mth.ahead (e1, e2) = 0 := if_neg he1
      rw [hah] at y1' y2'
      obtain ⟨A3, hA3⟩ : ∃ A3, A = A3 := ⟨_, rfl⟩
      obtain ⟨qr, hqr⟩ : ∃ k, q = k := ⟨_, rfl⟩
      obtain ⟨c3, hc3⟩ : ∃ k, c = k := ⟨_, rfl⟩
      subst hA3 hqr hc3
      have y1r := hid (show R.2.2 = true ↔ q = ts.length from by rw [y1'.out, hl, Nat.zero_add])
      have y2r := hid (show q = ts.length → R.1 = Mth.befAll nodeH old ts ps ∧ R.2.1 = Mth.upAll nodeH old ts ps from fun h => y2'.out (by rw [hl, Nat.zero_add]; exact h))
      have hP3 := hid (fun W (hW : Below w.heap.size w W) => hP'.out.below hW)
      have hCf := hCo
      have hf32 := ho'
      clear y1' y2' hP' hah
      by_cases hlen : q = ts.length
      · subst hlen
        go_wp2_with (first
          | ((with_reducible refine at_slot (some 41) ?_); generalize hW2 : W1.alloc (.cells #[.int .i64 (e1 : Int), .int .i64 (e2 : Int)] 72) = W2 at *; clear hW2; have c0 : W2.cell? ⟨W1.heap.size, 0, none⟩ = some (.int .i64 (e1 : Int)) := hE4.out.cell 0; refine wpList_load_mid rfl 28 (.tmp 6) rfl w.heap.size 0 rfl (byteCells old) _ (by exact h_all hO4.out) Try.underlying28 rfl (by exact hCo.out.size') ?_)
          | ((with_reducible refine at_slot (some 13) ?_); refine wpList_run rfl (.pointer (some ⟨W2.heap.size, 0, none⟩)) (W2.alloc (.cells z32 28)) (by kernel_rfl) ?_)
          | ((with_reducible refine at_slot none ?_); refine wpList_store_mid rfl 28 (.tmp 13) (.tmp 41) rfl W2.heap.size 0 (byteCells old).toArray rfl rfl (by exact hCo.out.there W2) (by exact hCo.out.size) (by exact hCo.out.one) ?_; generalize hW3 : World.setCells _ _ _ _ = W3; obtain ⟨hF5, hb5⟩ := hCo.out.new hW3; have hF5' := hid hF5; have hO5 := hid (hO4.out.below hb5 hO4.out.lt); have hR5 := hid (hR4.out.below hb5 hR4.out.lt); have hB5 := hid (below_up hb5 hB4.out); have hat5 := hid (At.below hat4.out (hb5.mono (by have := hz4.out; omega))); have c0 : W3.cell? ⟨W1.heap.size, 0, none⟩ = some (.int .i64 (e1 : Int)) := ((hE4.out.below hb5 hE4.out.lt).cell 0); clear hW3 hF5 hb5)
          | fail)
        have hdr : Below W3.heap.size W3 W3.drew := (Below.refl _ _).drew
        have hFd := hid (hF5'.out.below hdr hF5'.out.lt)
        have hOd := hid (hO5.out.below hdr hO5.out.lt)
        have hRd := hid (hR5.out.below hdr hR5.out.lt)
        have hBd := hid (below_up hdr hB5.out)
        have hatd := hid (At.below hat5.out (hdr.mono (by have h1 := hz4.out; have h2 := hF5'.out.lt; omega)))
        clear hdr
        refine wp_region_noPanic ?_
        refine wp_region_held_drew (S := fun W => Holds W W2.heap.size 28 (byteCells old)) (by kernel_rfl) (by exact hFd.out) (fun hHeld => ?_)
        generalize W3.drew = Wb at *
        have hwzb : W2.heap.size < Wb.heap.size := hFd.out.lt
        refine wpAnyH_take (i := 0) (v := .agg (byteCells old).toArray) rfl (by kernel_rfl) (by kernel_rfl) (by kernel_rfl) (fun _ _ _ h => h) (yieldsIf_load_mid (by kernel_rfl) _ _ rfl _ _ rfl _ _ (fun W h => h_all h) Try.underlying28 rfl (by exact hCf.out.size')) hHeld ?_
        simp only [ly1, ly2, ly3, Act.put, ly5, ly6, ly7]
        refine wpAnyH_take (i := 1) (v := .agg (byteCells old).toArray) rfl (by kernel_rfl) (by kernel_rfl) (by kernel_rfl) (fun _ _ _ h => h) (yieldsIf_load_mid (by kernel_rfl) _ _ rfl _ _ rfl _ _ (fun W h => h_all h) Try.underlying28 rfl (by exact hCf.out.size')) hHeld ?_
        simp only [ly1, ly2, ly3, Act.put, ly5, ly6, ly7]
        have hb_0 := hid (Below.refl Wb.heap.size Wb)
        refine wpAnyH_ready (rs := [2, 3]) (by kernel_rfl) (by simp) (AllReadyH.cons rfl (fun K hK => ?_) (AllReadyH.cons rfl (fun K hK => ?_) AllReadyH.nil))
        · skip
          have hK' := hid hK
          clear hK
          rw [if_pos (by kernel_rfl)]
          simp only [ly1, ly2, ly3]
          obtain ⟨g14, hqg14⟩ : ∃ g, g = Wb.heap.size := ⟨_, rfl⟩
          refine wp_run (.pointer (some ⟨g14, 0, none⟩)) (Wb.alloc (.cells z32 28)) (by rw [hqg14]; kernel_rfl) ?_
          have hb_1 := hid (hb_0.out.alloc hb_0.out.size (.cells z32 28))
          have hN1_g14 := hid (show Holds (Wb.alloc (.cells z32 28)) g14 28 (z32).toList from by rw [hqg14]; exact Holds.new Wb _ _)
          have hgeg14 : Wb.heap.size ≤ g14 := by rw [hqg14]; exact hb_0.out.size
          generalize hWg14 : Wb.alloc (.cells z32 28) = W_g14_1 at *
          clear hWg14 hqg14 hb_0
          refine hK'.out _ _ (by exact (hFd.out.below hb_1.out hFd.out.lt)) (fun hHeld => ?_)
          clear hK' K
          refine wpAnyH_ready (rs := [3]) (by kernel_rfl) (by simp) (AllReadyH.cons rfl (fun K hK => ?_) AllReadyH.nil)
          have hK' := hid hK
          clear hK
          rw [if_pos (by kernel_rfl)]
          simp only [ly1, ly2, ly3]
          obtain ⟨g15, hqg15⟩ : ∃ g, g = W_g14_1.heap.size := ⟨_, rfl⟩
          refine wp_run (.pointer (some ⟨g15, 0, none⟩)) (W_g14_1.alloc (.cells z32 28)) (by rw [hqg15]; kernel_rfl) ?_
          have hb_2 := hid (hb_1.out.alloc hb_1.out.size (.cells z32 28))
          have hN2_g15 := hid (show Holds (W_g14_1.alloc (.cells z32 28)) g15 28 (z32).toList from by rw [hqg15]; exact Holds.new W_g14_1 _ _)
          have hgeg15 : Wb.heap.size ≤ g15 := by rw [hqg15]; exact hb_1.out.size
          have hN2_g14 := hid (hN1_g14.out.alloc (.cells z32 28))
          have hne_g14_g15 : g14 ≠ g15 := by have := hN1_g14.out.lt; omega
          generalize hWg15 : W_g14_1.alloc (.cells z32 28) = W_g15_2 at *
          clear hWg15 hqg15 hb_1 hN1_g14
          refine hK'.out _ _ (by exact (hFd.out.below hb_2.out hFd.out.lt)) (fun hHeld => ?_)
          clear hK' K
          refine wpAnyH_ready (rs := [4]) (by kernel_rfl) (by simp) (AllReadyH.cons rfl (fun K hK => ?_) AllReadyH.nil)
          have hK' := hid hK
          clear hK
          rw [if_pos (by kernel_rfl)]
          simp only [ly1, ly2, ly3]
          refine wp_store_mid _ _ _ rfl g14 0 (byteCells old).toArray rfl rfl (by exact hCf.out.there' hN2_g14.out rfl) (by exact hCf.out.size) (by exact hCf.out.one) ?_
          generalize hX4 : World.setCells _ _ _ _ = X4
          obtain ⟨hG4, hb4⟩ := hCf.out.set hN2_g14.out rfl hX4 hb_2.out (by omega)
          have hG4' := hid hG4
          have hJ4 := hid (holds_far hN2_g15.out (Ne.symm hne_g14_g15) hX4)
          have hb4' := hid hb4
          have hF4 := hid (hFd.out.below hb4 hFd.out.lt)
          clear hX4 hG4 hb4 hb_2 hN2_g14 hN2_g15
          refine hK'.out _ _ (by exact hF4.out) (fun hHeld => ?_)
          clear hK' K
          refine wpAnyH_ready (rs := [5]) (by kernel_rfl) (by simp) (AllReadyH.cons rfl (fun K hK => ?_) AllReadyH.nil)
          have hK' := hid hK
          clear hK
          rw [if_pos (by kernel_rfl)]
          simp only [ly1, ly2, ly3]
          refine wp_store_mid _ _ _ rfl g15 0 (byteCells old).toArray rfl rfl (by exact hCf.out.there' hJ4.out rfl) (by exact hCf.out.size) (by exact hCf.out.one) ?_
          generalize hX5 : World.setCells _ _ _ _ = W5
          obtain ⟨hJ5, hb5⟩ := hCf.out.set hJ4.out rfl hX5 hb4'.out (by omega)
          have hJ5' := hid hJ5
          have hG5 := hid (holds_far hG4'.out hne_g14_g15 hX5)
          have hF5 := hid (hFd.out.below hb5 hFd.out.lt)
          have hO6 := hid (hOd.out.below hb5 hOd.out.lt)
          have hR6 := hid (hRd.out.below hb5 hRd.out.lt)
          have hB6 := hid (below_up hb5 hBd.out)
          have hat6 := hid (At.below hatd.out (hb5.mono (by have h1 := hz4.out; omega)))
          clear hX5 hJ5 hb5 hb4' hJ4 hG4' hF4
          refine hK'.out _ _ (by exact hF5.out) (fun hHeld => ?_)
          clear hK' K
          refine wpAnyH_done (by kernel_rfl) ?_ _
          refine NoPanic.normal ?_
          clear hHeld
          go_wp2_with (go_at_call 52; refine (up_any _ _ _ _ _ _ _).mono ?_; rintro e W6 ⟨rfl, hW6⟩; have hW6' := hid hW6; clear hW6)
          have hW6 := hW6'.out
          have hz5 : g14 < W5.heap.size := hG5.out.lt
          have hz5' : g15 < W5.heap.size := hJ5'.out.lt
          have hz6 : W6.heap.size = W5.heap.size + 2 := by rw [hW6]; simp
          have hb6 : Below W5.heap.size W5 W6 := by rw [hW6]; exact ((Below.refl _ _).alloc (Nat.le_refl _) _).alloc (by simp) _
          have q1 : W6.cell? ⟨W5.heap.size, 0, none⟩ = some (.slice A1 ts.length d1) := by rw [hW6]; exact ((Holds.new W5 70 #[.slice A1 ts.length d1]).alloc _).cell 0
          have q2 : W6.cell? ⟨W5.heap.size + 1, 0, none⟩ = some (.slice A ts.length c) := by
            have h := (Holds.new (W5.alloc (.cells #[.slice A1 ts.length d1] 70)) 41 #[.slice A ts.length c]).cell 0
            rw [alloc_size] at h
            rw [hW6]
            exact h
          have hG7 := hid (hG5.out.below hb6 hG5.out.lt)
          have hJ7 := hid (hJ5'.out.below hb6 hJ5'.out.lt)
          have hO7 := hid (hO6.out.below hb6 hO6.out.lt)
          have hR7 := hid (hR6.out.below hb6 hR6.out.lt)
          have hB7 := hid (below_up hb6 hB6.out)
          have hwz := hw1.out
          have hz4' := hz4.out
          have hat7 := At.below hat6.out (hb6.mono (by omega))
          have hP7 := hP3.out W6 hB7.out
          have hl' := hid hP7.len
          have hstops := hid (up_stops 8 W6.heap.size g14 g15 W5.heap.size (W5.heap.size + 1) (by omega) (by omega) (by omega) (by omega) (by omega) (by omega) A1 ts.length d1 ts A c ps rfl hl'.out hP7.2 (by omega) W6 (Nat.le_refl _) q1 q2
            (fun j t ht => by
              have hj := (List.getElem?_eq_some_iff.1 ht).1
              obtain ⟨p, t', hA, hpB, -, ht', hc⟩ := turns_get hat7 rfl hj
              obtain rfl : t' = t := Option.some.inj (ht'.symm.trans ht)
              exact ⟨p, hA, by omega, by omega, by omega, hc⟩)
            (fun j y hy => by
              have hj := (List.getElem?_eq_some_iff.1 hy).1
              have hlz := hl'.out
              obtain ⟨p, y', hA, hpB, -, hy', -, hc⟩ := hP7.get (show j < ts.length by omega)
              obtain rfl : y' = y := Option.some.inj (hy'.symm.trans hy)
              exact ⟨p, hA, by omega, by omega, by omega, hc⟩))
          have hz6' := hid hz6
          have hzb := hid hwzb
          clear hW6 hb6 q1 q2 hat7 hP7 hz6 hz4'
          refine (wpIn_wide (n := 10)).1 ?_
          refine wpIn_rangeFunc_ownH rfl (by omega) (gf := 64) (lb := #[.pointer (some ⟨W5.heap.size, 0, none⟩), .pointer (some ⟨W5.heap.size + 1, 0, none⟩)]) rfl trivial (enters_of Try.func64 (by kernel_rfl) rfl)
            hstops.out KeepE.trans (KeepE.put (Nat.le_refl _)) (Below.refl _ _) (fun _ => rfl)
            (fun pre W => (Holds W g15 28 (byteCells (upSo old pre)) ∧ Holds W g14 28 (byteCells (befSo old pre)) ∧ Holds W w.heap.size 28 (byteCells old) ∧ Holds W (w.heap.size + 1) 28 (byteCells root) ∧ W6.heap.size ≤ W.heap.size) ∧ Below w.heap.size w W)
            (fun _ _ _ => False)
            (OwnFrom.and (Own.from (fun s A B row hs hg hr => ⟨holds_kept hs.1 hg hr, holds_kept hs.2.1 hg hr, holds_kept hs.2.2.1 hg hr, holds_kept hs.2.2.2.1 hg hr, Nat.le_trans hs.2.2.2.2 hg.size⟩) _) (ownFrom_below (Nat.le_refl _) (by have h1 := hz6'.out; have h2 := hz4.out; have h3 := hzb.out; omega)))
            (fun _ _ _ _ _ hs _ _ => hs)
            ⟨⟨hJ7.out, hG7.out, hO7.out, hR7.out, Nat.le_refl _⟩, hB7.out⟩
            (fun y a' W => ∃ b1 b2, a' = { tmps := #[.int .i64 (m : Int), .agg (byteCells old).toArray, .int .i64 (n : Int), .agg (byteCells root).toArray, .slice A ts.length c, undef, .pointer (some ⟨w.heap.size, 0, none⟩), undef, .pointer (some ⟨w.heap.size + 1, 0, none⟩), undef, .int .i64 0, .slice A1 ts.length d1, .pointer (some ⟨W1.heap.size, 0, none⟩), .pointer (some ⟨W2.heap.size, 0, none⟩), .pointer (some ⟨g14, 0, none⟩), .pointer (some ⟨g15, 0, none⟩), .pointer (some ⟨b1, 0, none⟩), .pointer (some ⟨b2, 0, none⟩), .int .i64 (n : Int), .bool false, .bool false, .int .i64 (n : Int), .bool false, .bool false, .bool false, .int .i64 (m : Int), .bool false, .bool false, .bool false, .int .i64 (m : Int), .int .i64 (n : Int), .bool false, .bool false, .tuple #[.slice A1 ts.length d1, .agg #[.int .i64 (e1 : Int), .int .i64 (e2 : Int)]], .int .i64 (m : Int), .int .i64 (n : Int), .int .i64 (m : Int), .func (.func 65) #[] #[.pointer (some ⟨w.heap.size + 1 + 1, 0, none⟩)], .tuple #[.slice A1 ts.length d1, .agg #[.int .i64 (e1 : Int), .int .i64 (e2 : Int)]], .slice A1 ts.length d1, .agg #[.int .i64 (e1 : Int), .int .i64 (e2 : Int)], .agg (byteCells old).toArray, .pointer (some ⟨W1.heap.size, 0, none⟩), .int .i64 (e1 : Int), .bool false, .bool false, undef, undef, undef, .bool false, undef, undef, undef, undef, undef, .pointer (some ⟨W1.heap.size, 0, none⟩), .int .i64 (e1 : Int), .bool false, .slice A ts.length c, .int .i64 (ts.length : Int), .slice A1 ts.length d1, .int .i64 (ts.length : Int), .bool false, .agg (byteCells old).toArray, .agg (byteCells old).toArray, .slice A1 ts.length d1, .slice A ts.length c, .func (.func 64) #[] #[.pointer (some ⟨W5.heap.size, 0, none⟩), .pointer (some ⟨W5.heap.size + 1, 0, none⟩)], .agg #[.bool y.1.1.left, .int .i64 (y.1.1.lo : Int), .int .i64 (y.1.1.hi : Int)], .agg (byteCells y.1.2).toArray, undef, undef, undef, undef, undef, undef, undef, undef, undef, undef, undef, undef, undef, undef, undef, undef, undef, undef, undef], defers := [] } ∧ W6.heap.size ≤ b1 ∧ W6.heap.size ≤ b2 ∧ Holds W b1 82 (turnC y.1.1) ∧ Holds W b2 28 (byteCells y.1.2))
            (fun y a' _ A B row hs hg hr => by
              obtain ⟨b1, b2, h1, h2, h3, h4, h5⟩ := hs
              exact ⟨b1, b2, h1, h2, h3, holds_kept h4 hg (fun r e => (hr r e).2), holds_kept h5 hg (fun r e => (hr r e).2)⟩) ?assign ?body ?done ?stop
          case assign =>
            rintro l pre y W K ⟨⟨hJ, hG, hO, hR, hsz⟩, hB⟩ hK
            have hCx := hid (hash_cells y.1.2 y.2)
            unfold turnV hv
            gi_wp2_with (first
              | ((with_reducible refine at_slotIn (some 17) ?_); refine wpListIn_run rfl (fun c e => by cases e) rfl (.pointer (some ⟨(W.alloc (.cells #[.bool y.1.1.left, .int .i64 (y.1.1.lo : Int), .int .i64 (y.1.1.hi : Int)] 82)).heap.size, 0, none⟩)) ((W.alloc (.cells #[.bool y.1.1.left, .int .i64 (y.1.1.lo : Int), .int .i64 (y.1.1.hi : Int)] 82)).alloc (.cells z32 28)) (by kernel_rfl) ?_)
              | ((with_reducible refine at_slotIn none ?_); refine wpListIn_store_mid rfl 28 (.tmp 17) (.tmp 69) rfl (W.alloc (.cells #[.bool y.1.1.left, .int .i64 (y.1.1.lo : Int), .int .i64 (y.1.1.hi : Int)] 82)).heap.size 0 (byteCells y.1.2).toArray rfl rfl (by exact hCx.out.there _) (by exact hCx.out.size) (by exact hCx.out.one) ?_)
              | fail)
            obtain ⟨Wq, hWq⟩ : ∃ Wq, W.alloc (.cells #[.bool y.1.1.left, .int .i64 (y.1.1.lo : Int), .int .i64 (y.1.1.hi : Int)] 82) = Wq := ⟨_, rfl⟩
            have hzq : Wq.heap.size = W.heap.size + 1 := by rw [← hWq]; simp
            have hbq : Below W.heap.size W Wq := by rw [← hWq]; exact (Below.refl _ _).alloc (Nat.le_refl _) _
            have hT : Holds Wq W.heap.size 82 (turnC y.1.1) := by rw [← hWq]; exact Holds.new W _ _
            rw [hWq]
            obtain ⟨W', hW'⟩ : ∃ W', (Wq.alloc (.cells z32 28)).setCells Wq.heap.size 0 (byteCells y.1.2) = W' := ⟨_, rfl⟩
            obtain ⟨hX, hbx⟩ := hCx.out.new hW'
            rw [hzq] at hW' hX
            rw [hW']
            have hb' : Below W.heap.size W W' := hbq.trans (hbx.mono (by omega))
            refine hK _ _ ⟨hb'.size, fun i o _ hi _ => (hb'.block i (Array.getElem?_eq_some_iff.1 hi).1).trans hi⟩ (KeepE.below hsz hb') ⟨⟨hJ.below hb' hJ.lt, hG.below hb' hG.lt, hO.below hb' hO.lt, hR.below hb' hR.lt, Nat.le_trans hsz hb'.size⟩, hB.trans (hb'.mono hB.size)⟩ ⟨W.heap.size, W.heap.size + 1, rfl, hsz, by omega, hT.below hbx hT.lt, hX⟩
          case body =>
            rintro l pre ⟨⟨⟨left, lo, hi⟩, xh⟩, hxl⟩ a' W hl ⟨r0, hr0⟩ ⟨⟨hJ, hG, hO, hR, hsz⟩, hB⟩ ⟨b1, b2, rfl, hb1, hb2, hT, hX⟩ hlt
            dsimp only at hT hX hxl ⊢
            have hu32 := upSo_len _ hf32.out pre
            have hv32 := befSo_len _ hf32.out pre
            have hj := hid (fun W => join_any ⟨left, lo, hi⟩ (upSo old pre) xh hu32 hxl W)
            have hjb := hid (fun W => join_any ⟨left, lo, hi⟩ (befSo old pre) xh hv32 hxl W)
            have hCn := hid (hash_cells _ (oneUp_len ⟨left, lo, hi⟩ (upSo old pre) xh))
            have hCb := hid (hash_cells _ (oneUp_len ⟨left, lo, hi⟩ (befSo old pre) xh))
            have hsn := hid (upSo_snoc old pre ⟨⟨⟨left, lo, hi⟩, xh⟩, hxl⟩)
            have hsb := hid (befSo_snoc old pre ⟨⟨⟨left, lo, hi⟩, xh⟩, hxl⟩)
            have hi1 : (Try.prog.info? 28).map (·.size) = some (byteCells xh).length := (hash_cells xh hxl).size'
            have hi2 : (Try.prog.info? 28).map (·.size) = some (byteCells (upSo old pre)).length := (hash_cells _ hu32).size'
            have hi3 : (Try.prog.info? 28).map (·.size) = some (byteCells (befSo old pre)).length := (hash_cells _ hv32).size'
            have hul : (byteCells (upSo old pre)).length = 32 := (hash_cells _ hu32).len
            have hvl : (byteCells (befSo old pre)).length = 32 := (hash_cells _ hv32).len
            have hnb := hid (show left = false → Mth.oneUp nodeH ⟨left, lo, hi⟩ (befSo old pre) xh = nodeH xh (befSo old pre) from fun h => by simp [Mth.oneUp, h])
            dsimp only at hsn hsb
            unfold hv turnV at hj hjb
            have hJ' := hid hJ
            have hG' := hid hG
            have hO' := hid hO
            have hR' := hid hR
            have hB' := hid hB
            have hX' := hid hX
            have hT' := hid hT
            have hwz := hw1.out
            generalize Mth.oneUp nodeH ⟨left, lo, hi⟩ (upSo old pre) xh = nd at *
            generalize Mth.oneUp nodeH ⟨left, lo, hi⟩ (befSo old pre) xh = nb at *
            clear hJ hG hO hR hB hX hT
            have hn14 : w.heap.size + 1 < g14 := by have h1 := hz4.out; have h2 := hzb.out; omega
            have hn15 : w.heap.size + 1 < g15 := by have h1 := hz4.out; have h2 := hzb.out; omega
            have hb14 : g14 < b1 := by have h1 := hz6'.out; omega
            have hb15 : g15 < b1 := by have h1 := hz6'.out; omega
            have hc14 : g14 < b2 := by have h1 := hz6'.out; omega
            have hc15 : g15 < b2 := by have h1 := hz6'.out; omega
            cases left
            · skip
              gi_wp2_with (first
                  | ((with_reducible refine at_slotIn (some 70) ?_); refine wpListIn_load_mid rfl 82 (.tmp 16) rfl b1 0 rfl [.bool false, .int .i64 (lo : Int), .int .i64 (hi : Int)] _ (by exact h_all hT'.out) Try.underlying82 rfl (by kernel_rfl) ?_)
                  | ((with_reducible refine at_slotIn (some 71) ?_); refine wpListIn_load_mid rfl 28 (.tmp 15) rfl g15 0 rfl (byteCells (upSo old pre)) _ (by exact h_all hJ'.out) Try.underlying28 rfl (by exact hi2) ?_)
                  | ((with_reducible refine at_slotIn (some 72) ?_); refine wpListIn_load_mid rfl 28 (.tmp 17) rfl b2 0 rfl (byteCells xh) _ (by exact h_all hX'.out) Try.underlying28 rfl (by exact hi1) ?_)
                  | fail)
              refine ⟨trivial, (CallsIn.inRound l (callsIn_wide.2 (hj.out W))).mono ?_⟩
              rintro e W7 ⟨rfl, hb7⟩
              have hJ7 := hid (hJ'.out.below hb7 hJ'.out.lt)
              have hG7 := hid (hG'.out.below hb7 hG'.out.lt)
              have hO7 := hid (hO'.out.below hb7 hO'.out.lt)
              have hR7 := hid (hR'.out.below hb7 hR'.out.lt)
              have hT7 := hid (hT'.out.below hb7 hT'.out.lt)
              have hX7 := hid (hX'.out.below hb7 hX'.out.lt)
              have hb7' := hid hb7
              clear hb7
              gi_wp2_with (first
                | ((with_reducible refine at_slotIn none ?_); refine wpListIn_store_mid rfl 28 (.tmp 15) (.tmp 73) rfl g15 0 (byteCells nd).toArray rfl rfl (by exact hCn.out.there' hJ7.out hul) (by exact hCn.out.size) (by exact hCn.out.one) ?_; generalize hW8 : World.setCells _ _ _ _ = W8; obtain ⟨hJ8, hB8⟩ := hCn.out.set (w := w) hJ7.out hul hW8 (hB'.out.trans (hb7'.out.mono hB'.out.size)) (by omega); have hJ8' := hid hJ8; have hB8' := hid hB8; have hG8 := hid (holds_far hG7.out hne_g14_g15 hW8); have hO8 := hid (holds_far hO7.out (by omega) hW8); have hR8 := hid (holds_far hR7.out (by omega) hW8); have hT8 := hid (holds_far hT7.out (by omega) hW8); have hX8 := hid (holds_far hX7.out (by omega) hW8); have ct : W8.cell? ⟨b1, 0, none⟩ = some (.bool false) := hT8.out.cell 0; have hg8 := hid (grown_put (g := g15) hb7'.out hW8); clear hW8 hJ8 hB8)
                | ((with_reducible refine at_slotIn (some 77) ?_); refine wpListIn_load_mid rfl 82 (.tmp 16) rfl b1 0 rfl [.bool false, .int .i64 (lo : Int), .int .i64 (hi : Int)] _ (by exact h_all hT8.out) Try.underlying82 rfl (by kernel_rfl) ?_)
                | ((with_reducible refine at_slotIn (some 78) ?_); refine wpListIn_load_mid rfl 28 (.tmp 14) rfl g14 0 rfl (byteCells (befSo old pre)) _ (by exact h_all hG8.out) Try.underlying28 rfl (by exact hi3) ?_)
                | ((with_reducible refine at_slotIn (some 79) ?_); refine wpListIn_load_mid rfl 28 (.tmp 17) rfl b2 0 rfl (byteCells xh) _ (by exact h_all hX8.out) Try.underlying28 rfl (by exact hi1) ?_)
                | fail)
              refine ⟨trivial, (CallsIn.inRound l (callsIn_wide.2 (hjb.out W8))).mono ?_⟩
              rintro e W9 ⟨rfl, hb9⟩
              have hJ9 := hid (hJ8'.out.below hb9 hJ8'.out.lt)
              have hG9 := hid (hG8.out.below hb9 hG8.out.lt)
              have hO9 := hid (hO8.out.below hb9 hO8.out.lt)
              have hR9 := hid (hR8.out.below hb9 hR8.out.lt)
              have hb9' := hid hb9
              clear hb9
              gi_wp2_with (first
                | ((with_reducible refine at_slotIn none ?_); refine wpListIn_store_mid rfl 28 (.tmp 14) (.tmp 80) rfl g14 0 (byteCells nb).toArray rfl rfl (by exact hCb.out.there' hG9.out hvl) (by exact hCb.out.size) (by exact hCb.out.one) ?_)
                | fail)
              obtain ⟨W10, hW10⟩ : ∃ W10, W9.setCells g14 0 (byteCells nb) = W10 := ⟨_, rfl⟩
              rw [hW10]
              obtain ⟨hG10, hB10⟩ := hCb.out.set (w := w) hG9.out hvl hW10 (hB8'.out.trans (hb9'.out.mono hB8'.out.size)) (by omega)
              have hJ10 := holds_far hJ9.out (Ne.symm hne_g14_g15) hW10
              have hO10 := holds_far hO9.out (show w.heap.size ≠ g14 by omega) hW10
              have hR10 := holds_far hR9.out (show w.heap.size + 1 ≠ g14 by omega) hW10
              have hg10 := grown_put (g := g14) hb9'.out hW10
              have hsz8 := Nat.le_trans hsz hg8.out.size
              refine ⟨(KeepsFrom.of_grownBy hg8.out (fun j e => by have := Option.some.inj e; have h1 := hz6'.out; omega)).trans (KeepsFrom.of_grownBy hg10 (fun j e => by have := Option.some.inj e; have h1 := hz6'.out; omega)), (KeepE.grown2 hsz hg8.out).trans (KeepE.grown1 hsz8 hg10), ⟨?_, ?_, hO10, hR10, Nat.le_trans hsz8 hg10.size⟩, hB10⟩
              · rw [hsn.out]
                exact hJ10
              · rw [hsb.out, if_neg (by simp), ← hnb.out (by first | rfl | trivial)]
                exact hG10
            · skip
              gi_wp2_with (first
                  | ((with_reducible refine at_slotIn (some 70) ?_); refine wpListIn_load_mid rfl 82 (.tmp 16) rfl b1 0 rfl [.bool true, .int .i64 (lo : Int), .int .i64 (hi : Int)] _ (by exact h_all hT'.out) Try.underlying82 rfl (by kernel_rfl) ?_)
                  | ((with_reducible refine at_slotIn (some 71) ?_); refine wpListIn_load_mid rfl 28 (.tmp 15) rfl g15 0 rfl (byteCells (upSo old pre)) _ (by exact h_all hJ'.out) Try.underlying28 rfl (by exact hi2) ?_)
                  | ((with_reducible refine at_slotIn (some 72) ?_); refine wpListIn_load_mid rfl 28 (.tmp 17) rfl b2 0 rfl (byteCells xh) _ (by exact h_all hX'.out) Try.underlying28 rfl (by exact hi1) ?_)
                  | fail)
              refine ⟨trivial, (CallsIn.inRound l (callsIn_wide.2 (hj.out W))).mono ?_⟩
              rintro e W7 ⟨rfl, hb7⟩
              have hJ7 := hid (hJ'.out.below hb7 hJ'.out.lt)
              have hG7 := hid (hG'.out.below hb7 hG'.out.lt)
              have hO7 := hid (hO'.out.below hb7 hO'.out.lt)
              have hR7 := hid (hR'.out.below hb7 hR'.out.lt)
              have hT7 := hid (hT'.out.below hb7 hT'.out.lt)
              have hX7 := hid (hX'.out.below hb7 hX'.out.lt)
              have hb7' := hid hb7
              clear hb7
              gi_wp2_with (first
                | ((with_reducible refine at_slotIn none ?_); refine wpListIn_store_mid rfl 28 (.tmp 15) (.tmp 73) rfl g15 0 (byteCells nd).toArray rfl rfl (by exact hCn.out.there' hJ7.out hul) (by exact hCn.out.size) (by exact hCn.out.one) ?_; generalize hW8 : World.setCells _ _ _ _ = W8; obtain ⟨hJ8, hB8⟩ := hCn.out.set (w := w) hJ7.out hul hW8 (hB'.out.trans (hb7'.out.mono hB'.out.size)) (by omega); have hJ8' := hid hJ8; have hB8' := hid hB8; have hG8 := hid (holds_far hG7.out hne_g14_g15 hW8); have hO8 := hid (holds_far hO7.out (by omega) hW8); have hR8 := hid (holds_far hR7.out (by omega) hW8); have hT8 := hid (holds_far hT7.out (by omega) hW8); have hX8 := hid (holds_far hX7.out (by omega) hW8); have ct : W8.cell? ⟨b1, 0, none⟩ = some (.bool true) := hT8.out.cell 0; have hg8 := hid (grown_put (g := g15) hb7'.out hW8); clear hW8 hJ8 hB8)
                | fail)
              refine ⟨KeepsFrom.of_grownBy hg8.out (fun j e => by have := Option.some.inj e; have h1 := hz6'.out; omega), KeepE.grown2 hsz hg8.out, ⟨?_, ?_, hO8.out, hR8.out, Nat.le_trans hsz hg8.out.size⟩, hB8'.out⟩
              · rw [hsn.out]
                exact hJ8'.out
              · rw [hsb.out, if_pos (by first | rfl | trivial)]
                exact hG8.out
          case done =>
            rintro D ys W hD hys ⟨⟨hJ, hG, hO, hR, hsz⟩, hB⟩ hK
            have hU32 := upSo_len _ hf32.out ys
            have hV32 := befSo_len _ hf32.out ys
            rw [upSo_all old ts ps hl'.out.symm ys hys] at hJ hU32
            rw [befSo_all old ts ps hl'.out.symm ys hys] at hG hV32
            obtain ⟨hV, hU⟩ := y2r.out (by first | rfl | trivial)
            have hok := y1r.out.2 (by first | rfl | trivial)
            have hE1 := hE'.out
            rw [hV, hU] at hE1
            have hE2 := hid hE1
            have hok' := hid hok
            have hK' := hid hK
            have hJ' := hid hJ
            have hG' := hid hG
            have hO' := hid hO
            have hR' := hid hR
            have hB' := hid hB
            have hwD := hid (show w.heap.size ≤ D from by have h1 := hD; have h2 := hz6'.out; have h3 := hw1.out; have h4 := hz4.out; have h5 := hzb.out; omega)
            generalize Mth.upAll nodeH old ts ps = U at *
            generalize Mth.befAll nodeH old ts ps = V at *
            have hCU := hid (hash_cells U hU32)
            have hCV := hid (hash_cells V hV32)
            have hU0 := hid hU32
            have hV0 := hid hV32
            clear hK hJ hG hO hR hB hU hV hok hE1 hU32 hV32 hys hD
            have hfin := hid (show Below w.heap.size w (W.putObj D (.deferred none)) from hB'.out.trans (belowK_b (w := w) (Nat.le_refl _) W D _ _ hwD.out hK'.out rfl rfl))
            obtain ⟨bv, hbv⟩ : ∃ b, (!(V == old)) = b := ⟨_, rfl⟩
            obtain ⟨bu, hbu⟩ : ∃ b, (!(U == root)) = b := ⟨_, rfl⟩
            have hbv' := hid hbv
            have hbu' := hid hbu
            clear hbv hbu
            cases bv
            · have hVo : V = old := by simpa using hbv'.out
              have hVo' := hid hVo
              clear hVo
              cases bu
              · have hUr : U = root := by simpa using hbu'.out
                have hUr' := hid hUr
                clear hUr
                go_wp2_with (first
                  | ((with_reducible refine at_slot (some 81) ?_); refine wpList_load_mid rfl 28 (.tmp 14) rfl g14 0 rfl (byteCells V) _ (by exact h_all hG'.out) Try.underlying28 rfl (by exact hCV.out.size') ?_)
                  | ((with_reducible refine at_slot (some 82) ?_); refine wpList_load_mid rfl 28 (.tmp 6) rfl w.heap.size 0 rfl (byteCells old) _ (by exact h_all hO'.out) Try.underlying28 rfl (by exact hCo.out.size') ?_)
                  | ((with_reducible refine at_slot (some 83) ?_); refine wpList_hneq rfl (.tmp 81) (.tmp 82) _ rfl V old hV0.out ho'.out rfl rfl ?_; rw [hbv'.out])
                  | ((with_reducible refine at_slot (some 85) ?_); refine wpList_load_on (by kernel_rfl) 28 (.tmp 15) rfl g15 0 rfl (byteCells U) _ (by exact h_all hJ'.out) Try.underlying28 rfl (by exact hCU.out.size') ?_)
                  | ((with_reducible refine at_slot (some 86) ?_); refine wpList_load_on (by kernel_rfl) 28 (.tmp 8) rfl (w.heap.size + 1) 0 rfl (byteCells root) _ (by exact h_all hR'.out) Try.underlying28 rfl (by exact hCr.out.size') ?_)
                  | ((with_reducible refine at_slot (some 87) ?_); refine wpList_hneq_on (by kernel_rfl) (.tmp 85) (.tmp 86) _ rfl U root hU0.out hr'.out rfl rfl ?_; rw [hbu'.out])
                  | fail)
                refine ⟨by simp, .inl ⟨_, _, rfl, run_takeDeferred hK'.out, ?_⟩⟩
                exact ⟨_, results_tmp rfl _ _ _, by rw [hE2.out, if_pos ⟨hok'.out, hVo'.out, hUr'.out⟩]; rfl, hfin.out⟩
              · have hUr : U ≠ root := by simpa using hbu'.out
                go_wp2_with (first
                  | ((with_reducible refine at_slot (some 81) ?_); refine wpList_load_mid rfl 28 (.tmp 14) rfl g14 0 rfl (byteCells V) _ (by exact h_all hG'.out) Try.underlying28 rfl (by exact hCV.out.size') ?_)
                  | ((with_reducible refine at_slot (some 82) ?_); refine wpList_load_mid rfl 28 (.tmp 6) rfl w.heap.size 0 rfl (byteCells old) _ (by exact h_all hO'.out) Try.underlying28 rfl (by exact hCo.out.size') ?_)
                  | ((with_reducible refine at_slot (some 83) ?_); refine wpList_hneq rfl (.tmp 81) (.tmp 82) _ rfl V old hV0.out ho'.out rfl rfl ?_; rw [hbv'.out])
                  | ((with_reducible refine at_slot (some 85) ?_); refine wpList_load_on (by kernel_rfl) 28 (.tmp 15) rfl g15 0 rfl (byteCells U) _ (by exact h_all hJ'.out) Try.underlying28 rfl (by exact hCU.out.size') ?_)
                  | ((with_reducible refine at_slot (some 86) ?_); refine wpList_load_on (by kernel_rfl) 28 (.tmp 8) rfl (w.heap.size + 1) 0 rfl (byteCells root) _ (by exact h_all hR'.out) Try.underlying28 rfl (by exact hCr.out.size') ?_)
                  | ((with_reducible refine at_slot (some 87) ?_); refine wpList_hneq_on (by kernel_rfl) (.tmp 85) (.tmp 86) _ rfl U root hU0.out hr'.out rfl rfl ?_; rw [hbu'.out])
                  | fail)
                refine ⟨by simp, .inl ⟨_, _, rfl, run_takeDeferred hK'.out, ?_⟩⟩
                exact ⟨_, results_tmp rfl _ _ _, by rw [hE2.out, if_neg (fun h => hUr h.2.2)]; rfl, hfin.out⟩
            · have hVo : V ≠ old := by simpa using hbv'.out
              go_wp2_with (first
                | ((with_reducible refine at_slot (some 81) ?_); refine wpList_load_mid rfl 28 (.tmp 14) rfl g14 0 rfl (byteCells V) _ (by exact h_all hG'.out) Try.underlying28 rfl (by exact hCV.out.size') ?_)
                | ((with_reducible refine at_slot (some 82) ?_); refine wpList_load_mid rfl 28 (.tmp 6) rfl w.heap.size 0 rfl (byteCells old) _ (by exact h_all hO'.out) Try.underlying28 rfl (by exact hCo.out.size') ?_)
                | ((with_reducible refine at_slot (some 83) ?_); refine wpList_hneq rfl (.tmp 81) (.tmp 82) _ rfl V old hV0.out ho'.out rfl rfl ?_; rw [hbv'.out])
                | fail)
              refine ⟨by simp, .inl ⟨_, _, rfl, run_takeDeferred hK'.out, ?_⟩⟩
              exact ⟨_, results_tmp rfl _ _ _, by rw [hE2.out, if_neg (fun h => hVo h.2.1)]; rfl, hfin.out⟩
          case stop =>
            rintro D c pre W _ _ h _
            exact h.elim

        · skip
          have hK' := hid hK
          clear hK
          rw [if_pos (by kernel_rfl)]
          simp only [ly1, ly2, ly3]
          obtain ⟨g15, hqg15⟩ : ∃ g, g = Wb.heap.size := ⟨_, rfl⟩
          refine wp_run (.pointer (some ⟨g15, 0, none⟩)) (Wb.alloc (.cells z32 28)) (by rw [hqg15]; kernel_rfl) ?_
          have hb_1 := hid (hb_0.out.alloc hb_0.out.size (.cells z32 28))
          have hN1_g15 := hid (show Holds (Wb.alloc (.cells z32 28)) g15 28 (z32).toList from by rw [hqg15]; exact Holds.new Wb _ _)
          have hgeg15 : Wb.heap.size ≤ g15 := by rw [hqg15]; exact hb_0.out.size
          generalize hWg15 : Wb.alloc (.cells z32 28) = W_g15_1 at *
          clear hWg15 hqg15 hb_0
          refine hK'.out _ _ (by exact (hFd.out.below hb_1.out hFd.out.lt)) (fun hHeld => ?_)
          clear hK' K
          refine wpAnyH_ready (rs := [2]) (by kernel_rfl) (by simp) (AllReadyH.cons rfl (fun K hK => ?_) AllReadyH.nil)
          have hK' := hid hK
          clear hK
          rw [if_pos (by kernel_rfl)]
          simp only [ly1, ly2, ly3]
          obtain ⟨g14, hqg14⟩ : ∃ g, g = W_g15_1.heap.size := ⟨_, rfl⟩
          refine wp_run (.pointer (some ⟨g14, 0, none⟩)) (W_g15_1.alloc (.cells z32 28)) (by rw [hqg14]; kernel_rfl) ?_
          have hb_2 := hid (hb_1.out.alloc hb_1.out.size (.cells z32 28))
          have hN2_g14 := hid (show Holds (W_g15_1.alloc (.cells z32 28)) g14 28 (z32).toList from by rw [hqg14]; exact Holds.new W_g15_1 _ _)
          have hgeg14 : Wb.heap.size ≤ g14 := by rw [hqg14]; exact hb_1.out.size
          have hN2_g15 := hid (hN1_g15.out.alloc (.cells z32 28))
          have hne_g14_g15 : g14 ≠ g15 := by have := hN1_g15.out.lt; omega
          generalize hWg14 : W_g15_1.alloc (.cells z32 28) = W_g14_2 at *
          clear hWg14 hqg14 hb_1 hN1_g15
          refine hK'.out _ _ (by exact (hFd.out.below hb_2.out hFd.out.lt)) (fun hHeld => ?_)
          clear hK' K
          refine wpAnyH_ready (rs := [4]) (by kernel_rfl) (by simp) (AllReadyH.cons rfl (fun K hK => ?_) AllReadyH.nil)
          have hK' := hid hK
          clear hK
          rw [if_pos (by kernel_rfl)]
          simp only [ly1, ly2, ly3]
          refine wp_store_mid _ _ _ rfl g14 0 (byteCells old).toArray rfl rfl (by exact hCf.out.there' hN2_g14.out rfl) (by exact hCf.out.size) (by exact hCf.out.one) ?_
          generalize hX4 : World.setCells _ _ _ _ = X4
          obtain ⟨hG4, hb4⟩ := hCf.out.set hN2_g14.out rfl hX4 hb_2.out (by omega)
          have hG4' := hid hG4
          have hJ4 := hid (holds_far hN2_g15.out (Ne.symm hne_g14_g15) hX4)
          have hb4' := hid hb4
          have hF4 := hid (hFd.out.below hb4 hFd.out.lt)
          clear hX4 hG4 hb4 hb_2 hN2_g14 hN2_g15
          refine hK'.out _ _ (by exact hF4.out) (fun hHeld => ?_)
          clear hK' K
          refine wpAnyH_ready (rs := [5]) (by kernel_rfl) (by simp) (AllReadyH.cons rfl (fun K hK => ?_) AllReadyH.nil)
          have hK' := hid hK
          clear hK
          rw [if_pos (by kernel_rfl)]
          simp only [ly1, ly2, ly3]
          refine wp_store_mid _ _ _ rfl g15 0 (byteCells old).toArray rfl rfl (by exact hCf.out.there' hJ4.out rfl) (by exact hCf.out.size) (by exact hCf.out.one) ?_
          generalize hX5 : World.setCells _ _ _ _ = W5
          obtain ⟨hJ5, hb5⟩ := hCf.out.set hJ4.out rfl hX5 hb4'.out (by omega)
          have hJ5' := hid hJ5
          have hG5 := hid (holds_far hG4'.out hne_g14_g15 hX5)
          have hF5 := hid (hFd.out.below hb5 hFd.out.lt)
          have hO6 := hid (hOd.out.below hb5 hOd.out.lt)
          have hR6 := hid (hRd.out.below hb5 hRd.out.lt)
          have hB6 := hid (below_up hb5 hBd.out)
          have hat6 := hid (At.below hatd.out (hb5.mono (by have h1 := hz4.out; omega)))
          clear hX5 hJ5 hb5 hb4' hJ4 hG4' hF4
          refine hK'.out _ _ (by exact hF5.out) (fun hHeld => ?_)
          clear hK' K
          refine wpAnyH_done (by kernel_rfl) ?_ _
          refine NoPanic.normal ?_
          clear hHeld
          go_wp2_with (go_at_call 52; refine (up_any _ _ _ _ _ _ _).mono ?_; rintro e W6 ⟨rfl, hW6⟩; have hW6' := hid hW6; clear hW6)
          have hW6 := hW6'.out
          have hz5 : g14 < W5.heap.size := hG5.out.lt
          have hz5' : g15 < W5.heap.size := hJ5'.out.lt
          have hz6 : W6.heap.size = W5.heap.size + 2 := by rw [hW6]; simp
          have hb6 : Below W5.heap.size W5 W6 := by rw [hW6]; exact ((Below.refl _ _).alloc (Nat.le_refl _) _).alloc (by simp) _
          have q1 : W6.cell? ⟨W5.heap.size, 0, none⟩ = some (.slice A1 ts.length d1) := by rw [hW6]; exact ((Holds.new W5 70 #[.slice A1 ts.length d1]).alloc _).cell 0
          have q2 : W6.cell? ⟨W5.heap.size + 1, 0, none⟩ = some (.slice A ts.length c) := by
            have h := (Holds.new (W5.alloc (.cells #[.slice A1 ts.length d1] 70)) 41 #[.slice A ts.length c]).cell 0
            rw [alloc_size] at h
            rw [hW6]
            exact h
          have hG7 := hid (hG5.out.below hb6 hG5.out.lt)
          have hJ7 := hid (hJ5'.out.below hb6 hJ5'.out.lt)
          have hO7 := hid (hO6.out.below hb6 hO6.out.lt)
          have hR7 := hid (hR6.out.below hb6 hR6.out.lt)
          have hB7 := hid (below_up hb6 hB6.out)
          have hwz := hw1.out
          have hz4' := hz4.out
          have hat7 := At.below hat6.out (hb6.mono (by omega))
          have hP7 := hP3.out W6 hB7.out
          have hl' := hid hP7.len
          have hstops := hid (up_stops 8 W6.heap.size g14 g15 W5.heap.size (W5.heap.size + 1) (by omega) (by omega) (by omega) (by omega) (by omega) (by omega) A1 ts.length d1 ts A c ps rfl hl'.out hP7.2 (by omega) W6 (Nat.le_refl _) q1 q2
            (fun j t ht => by
              have hj := (List.getElem?_eq_some_iff.1 ht).1
              obtain ⟨p, t', hA, hpB, -, ht', hc⟩ := turns_get hat7 rfl hj
              obtain rfl : t' = t := Option.some.inj (ht'.symm.trans ht)
              exact ⟨p, hA, by omega, by omega, by omega, hc⟩)
            (fun j y hy => by
              have hj := (List.getElem?_eq_some_iff.1 hy).1
              have hlz := hl'.out
              obtain ⟨p, y', hA, hpB, -, hy', -, hc⟩ := hP7.get (show j < ts.length by omega)
              obtain rfl : y' = y := Option.some.inj (hy'.symm.trans hy)
              exact ⟨p, hA, by omega, by omega, by omega, hc⟩))
          have hz6' := hid hz6
          have hzb := hid hwzb
          clear hW6 hb6 q1 q2 hat7 hP7 hz6 hz4'
          refine (wpIn_wide (n := 10)).1 ?_
          refine wpIn_rangeFunc_ownH rfl (by omega) (gf := 64) (lb := #[.pointer (some ⟨W5.heap.size, 0, none⟩), .pointer (some ⟨W5.heap.size + 1, 0, none⟩)]) rfl trivial (enters_of Try.func64 (by kernel_rfl) rfl)
            hstops.out KeepE.trans (KeepE.put (Nat.le_refl _)) (Below.refl _ _) (fun _ => rfl)
            (fun pre W => (Holds W g15 28 (byteCells (upSo old pre)) ∧ Holds W g14 28 (byteCells (befSo old pre)) ∧ Holds W w.heap.size 28 (byteCells old) ∧ Holds W (w.heap.size + 1) 28 (byteCells root) ∧ W6.heap.size ≤ W.heap.size) ∧ Below w.heap.size w W)
            (fun _ _ _ => False)
            (OwnFrom.and (Own.from (fun s A B row hs hg hr => ⟨holds_kept hs.1 hg hr, holds_kept hs.2.1 hg hr, holds_kept hs.2.2.1 hg hr, holds_kept hs.2.2.2.1 hg hr, Nat.le_trans hs.2.2.2.2 hg.size⟩) _) (ownFrom_below (Nat.le_refl _) (by have h1 := hz6'.out; have h2 := hz4.out; have h3 := hzb.out; omega)))
            (fun _ _ _ _ _ hs _ _ => hs)
            ⟨⟨hJ7.out, hG7.out, hO7.out, hR7.out, Nat.le_refl _⟩, hB7.out⟩
            (fun y a' W => ∃ b1 b2, a' = { tmps := #[.int .i64 (m : Int), .agg (byteCells old).toArray, .int .i64 (n : Int), .agg (byteCells root).toArray, .slice A ts.length c, undef, .pointer (some ⟨w.heap.size, 0, none⟩), undef, .pointer (some ⟨w.heap.size + 1, 0, none⟩), undef, .int .i64 0, .slice A1 ts.length d1, .pointer (some ⟨W1.heap.size, 0, none⟩), .pointer (some ⟨W2.heap.size, 0, none⟩), .pointer (some ⟨g14, 0, none⟩), .pointer (some ⟨g15, 0, none⟩), .pointer (some ⟨b1, 0, none⟩), .pointer (some ⟨b2, 0, none⟩), .int .i64 (n : Int), .bool false, .bool false, .int .i64 (n : Int), .bool false, .bool false, .bool false, .int .i64 (m : Int), .bool false, .bool false, .bool false, .int .i64 (m : Int), .int .i64 (n : Int), .bool false, .bool false, .tuple #[.slice A1 ts.length d1, .agg #[.int .i64 (e1 : Int), .int .i64 (e2 : Int)]], .int .i64 (m : Int), .int .i64 (n : Int), .int .i64 (m : Int), .func (.func 65) #[] #[.pointer (some ⟨w.heap.size + 1 + 1, 0, none⟩)], .tuple #[.slice A1 ts.length d1, .agg #[.int .i64 (e1 : Int), .int .i64 (e2 : Int)]], .slice A1 ts.length d1, .agg #[.int .i64 (e1 : Int), .int .i64 (e2 : Int)], .agg (byteCells old).toArray, .pointer (some ⟨W1.heap.size, 0, none⟩), .int .i64 (e1 : Int), .bool false, .bool false, undef, undef, undef, .bool false, undef, undef, undef, undef, undef, .pointer (some ⟨W1.heap.size, 0, none⟩), .int .i64 (e1 : Int), .bool false, .slice A ts.length c, .int .i64 (ts.length : Int), .slice A1 ts.length d1, .int .i64 (ts.length : Int), .bool false, .agg (byteCells old).toArray, .agg (byteCells old).toArray, .slice A1 ts.length d1, .slice A ts.length c, .func (.func 64) #[] #[.pointer (some ⟨W5.heap.size, 0, none⟩), .pointer (some ⟨W5.heap.size + 1, 0, none⟩)], .agg #[.bool y.1.1.left, .int .i64 (y.1.1.lo : Int), .int .i64 (y.1.1.hi : Int)], .agg (byteCells y.1.2).toArray, undef, undef, undef, undef, undef, undef, undef, undef, undef, undef, undef, undef, undef, undef, undef, undef, undef, undef, undef], defers := [] } ∧ W6.heap.size ≤ b1 ∧ W6.heap.size ≤ b2 ∧ Holds W b1 82 (turnC y.1.1) ∧ Holds W b2 28 (byteCells y.1.2))
            (fun y a' _ A B row hs hg hr => by
              obtain ⟨b1, b2, h1, h2, h3, h4, h5⟩ := hs
              exact ⟨b1, b2, h1, h2, h3, holds_kept h4 hg (fun r e => (hr r e).2), holds_kept h5 hg (fun r e => (hr r e).2)⟩) ?assign ?body ?done ?stop
          case assign =>
            rintro l pre y W K ⟨⟨hJ, hG, hO, hR, hsz⟩, hB⟩ hK
            have hCx := hid (hash_cells y.1.2 y.2)
            unfold turnV hv
            gi_wp2_with (first
              | ((with_reducible refine at_slotIn (some 17) ?_); refine wpListIn_run rfl (fun c e => by cases e) rfl (.pointer (some ⟨(W.alloc (.cells #[.bool y.1.1.left, .int .i64 (y.1.1.lo : Int), .int .i64 (y.1.1.hi : Int)] 82)).heap.size, 0, none⟩)) ((W.alloc (.cells #[.bool y.1.1.left, .int .i64 (y.1.1.lo : Int), .int .i64 (y.1.1.hi : Int)] 82)).alloc (.cells z32 28)) (by kernel_rfl) ?_)
              | ((with_reducible refine at_slotIn none ?_); refine wpListIn_store_mid rfl 28 (.tmp 17) (.tmp 69) rfl (W.alloc (.cells #[.bool y.1.1.left, .int .i64 (y.1.1.lo : Int), .int .i64 (y.1.1.hi : Int)] 82)).heap.size 0 (byteCells y.1.2).toArray rfl rfl (by exact hCx.out.there _) (by exact hCx.out.size) (by exact hCx.out.one) ?_)
              | fail)
            obtain ⟨Wq, hWq⟩ : ∃ Wq, W.alloc (.cells #[.bool y.1.1.left, .int .i64 (y.1.1.lo : Int), .int .i64 (y.1.1.hi : Int)] 82) = Wq := ⟨_, rfl⟩
            have hzq : Wq.heap.size = W.heap.size + 1 := by rw [← hWq]; simp
            have hbq : Below W.heap.size W Wq := by rw [← hWq]; exact (Below.refl _ _).alloc (Nat.le_refl _) _
            have hT : Holds Wq W.heap.size 82 (turnC y.1.1) := by rw [← hWq]; exact Holds.new W _ _
            rw [hWq]
            obtain ⟨W', hW'⟩ : ∃ W', (Wq.alloc (.cells z32 28)).setCells Wq.heap.size 0 (byteCells y.1.2) = W' := ⟨_, rfl⟩
            obtain ⟨hX, hbx⟩ := hCx.out.new hW'
            rw [hzq] at hW' hX
            rw [hW']
            have hb' : Below W.heap.size W W' := hbq.trans (hbx.mono (by omega))
            refine hK _ _ ⟨hb'.size, fun i o _ hi _ => (hb'.block i (Array.getElem?_eq_some_iff.1 hi).1).trans hi⟩ (KeepE.below hsz hb') ⟨⟨hJ.below hb' hJ.lt, hG.below hb' hG.lt, hO.below hb' hO.lt, hR.below hb' hR.lt, Nat.le_trans hsz hb'.size⟩, hB.trans (hb'.mono hB.size)⟩ ⟨W.heap.size, W.heap.size + 1, rfl, hsz, by omega, hT.below hbx hT.lt, hX⟩
          case body =>
            rintro l pre ⟨⟨⟨left, lo, hi⟩, xh⟩, hxl⟩ a' W hl ⟨r0, hr0⟩ ⟨⟨hJ, hG, hO, hR, hsz⟩, hB⟩ ⟨b1, b2, rfl, hb1, hb2, hT, hX⟩ hlt
            dsimp only at hT hX hxl ⊢
            have hu32 := upSo_len _ hf32.out pre
            have hv32 := befSo_len _ hf32.out pre
            have hj := hid (fun W => join_any ⟨left, lo, hi⟩ (upSo old pre) xh hu32 hxl W)
            have hjb := hid (fun W => join_any ⟨left, lo, hi⟩ (befSo old pre) xh hv32 hxl W)
            have hCn := hid (hash_cells _ (oneUp_len ⟨left, lo, hi⟩ (upSo old pre) xh))
            have hCb := hid (hash_cells _ (oneUp_len ⟨left, lo, hi⟩ (befSo old pre) xh))
            have hsn := hid (upSo_snoc old pre ⟨⟨⟨left, lo, hi⟩, xh⟩, hxl⟩)
            have hsb := hid (befSo_snoc old pre ⟨⟨⟨left, lo, hi⟩, xh⟩, hxl⟩)
            have hi1 : (Try.prog.info? 28).map (·.size) = some (byteCells xh).length := (hash_cells xh hxl).size'
            have hi2 : (Try.prog.info? 28).map (·.size) = some (byteCells (upSo old pre)).length := (hash_cells _ hu32).size'
            have hi3 : (Try.prog.info? 28).map (·.size) = some (byteCells (befSo old pre)).length := (hash_cells _ hv32).size'
            have hul : (byteCells (upSo old pre)).length = 32 := (hash_cells _ hu32).len
            have hvl : (byteCells (befSo old pre)).length = 32 := (hash_cells _ hv32).len
            have hnb := hid (show left = false → Mth.oneUp nodeH ⟨left, lo, hi⟩ (befSo old pre) xh = nodeH xh (befSo old pre) from fun h => by simp [Mth.oneUp, h])
            dsimp only at hsn hsb
            unfold hv turnV at hj hjb
            have hJ' := hid hJ
            have hG' := hid hG
            have hO' := hid hO
            have hR' := hid hR
            have hB' := hid hB
            have hX' := hid hX
            have hT' := hid hT
            have hwz := hw1.out
            generalize Mth.oneUp nodeH ⟨left, lo, hi⟩ (upSo old pre) xh = nd at *
            generalize Mth.oneUp nodeH ⟨left, lo, hi⟩ (befSo old pre) xh = nb at *
            clear hJ hG hO hR hB hX hT
            have hn14 : w.heap.size + 1 < g14 := by have h1 := hz4.out; have h2 := hzb.out; omega
            have hn15 : w.heap.size + 1 < g15 := by have h1 := hz4.out; have h2 := hzb.out; omega
            have hb14 : g14 < b1 := by have h1 := hz6'.out; omega
            have hb15 : g15 < b1 := by have h1 := hz6'.out; omega
            have hc14 : g14 < b2 := by have h1 := hz6'.out; omega
            have hc15 : g15 < b2 := by have h1 := hz6'.out; omega
            cases left
            · skip
              gi_wp2_with (first
                  | ((with_reducible refine at_slotIn (some 70) ?_); refine wpListIn_load_mid rfl 82 (.tmp 16) rfl b1 0 rfl [.bool false, .int .i64 (lo : Int), .int .i64 (hi : Int)] _ (by exact h_all hT'.out) Try.underlying82 rfl (by kernel_rfl) ?_)
                  | ((with_reducible refine at_slotIn (some 71) ?_); refine wpListIn_load_mid rfl 28 (.tmp 15) rfl g15 0 rfl (byteCells (upSo old pre)) _ (by exact h_all hJ'.out) Try.underlying28 rfl (by exact hi2) ?_)
                  | ((with_reducible refine at_slotIn (some 72) ?_); refine wpListIn_load_mid rfl 28 (.tmp 17) rfl b2 0 rfl (byteCells xh) _ (by exact h_all hX'.out) Try.underlying28 rfl (by exact hi1) ?_)
                  | fail)
              refine ⟨trivial, (CallsIn.inRound l (callsIn_wide.2 (hj.out W))).mono ?_⟩
              rintro e W7 ⟨rfl, hb7⟩
              have hJ7 := hid (hJ'.out.below hb7 hJ'.out.lt)
              have hG7 := hid (hG'.out.below hb7 hG'.out.lt)
              have hO7 := hid (hO'.out.below hb7 hO'.out.lt)
              have hR7 := hid (hR'.out.below hb7 hR'.out.lt)
              have hT7 := hid (hT'.out.below hb7 hT'.out.lt)
              have hX7 := hid (hX'.out.below hb7 hX'.out.lt)
              have hb7' := hid hb7
              clear hb7
              gi_wp2_with (first
                | ((with_reducible refine at_slotIn none ?_); refine wpListIn_store_mid rfl 28 (.tmp 15) (.tmp 73) rfl g15 0 (byteCells nd).toArray rfl rfl (by exact hCn.out.there' hJ7.out hul) (by exact hCn.out.size) (by exact hCn.out.one) ?_; generalize hW8 : World.setCells _ _ _ _ = W8; obtain ⟨hJ8, hB8⟩ := hCn.out.set (w := w) hJ7.out hul hW8 (hB'.out.trans (hb7'.out.mono hB'.out.size)) (by omega); have hJ8' := hid hJ8; have hB8' := hid hB8; have hG8 := hid (holds_far hG7.out hne_g14_g15 hW8); have hO8 := hid (holds_far hO7.out (by omega) hW8); have hR8 := hid (holds_far hR7.out (by omega) hW8); have hT8 := hid (holds_far hT7.out (by omega) hW8); have hX8 := hid (holds_far hX7.out (by omega) hW8); have ct : W8.cell? ⟨b1, 0, none⟩ = some (.bool false) := hT8.out.cell 0; have hg8 := hid (grown_put (g := g15) hb7'.out hW8); clear hW8 hJ8 hB8)
                | ((with_reducible refine at_slotIn (some 77) ?_); refine wpListIn_load_mid rfl 82 (.tmp 16) rfl b1 0 rfl [.bool false, .int .i64 (lo : Int), .int .i64 (hi : Int)] _ (by exact h_all hT8.out) Try.underlying82 rfl (by kernel_rfl) ?_)
                | ((with_reducible refine at_slotIn (some 78) ?_); refine wpListIn_load_mid rfl 28 (.tmp 14) rfl g14 0 rfl (byteCells (befSo old pre)) _ (by exact h_all hG8.out) Try.underlying28 rfl (by exact hi3) ?_)
                | ((with_reducible refine at_slotIn (some 79) ?_); refine wpListIn_load_mid rfl 28 (.tmp 17) rfl b2 0 rfl (byteCells xh) _ (by exact h_all hX8.out) Try.underlying28 rfl (by exact hi1) ?_)
                | fail)
              refine ⟨trivial, (CallsIn.inRound l (callsIn_wide.2 (hjb.out W8))).mono ?_⟩
              rintro e W9 ⟨rfl, hb9⟩
              have hJ9 := hid (hJ8'.out.below hb9 hJ8'.out.lt)
              have hG9 := hid (hG8.out.below hb9 hG8.out.lt)
              have hO9 := hid (hO8.out.below hb9 hO8.out.lt)
              have hR9 := hid (hR8.out.below hb9 hR8.out.lt)
              have hb9' := hid hb9
              clear hb9
              gi_wp2_with (first
                | ((with_reducible refine at_slotIn none ?_); refine wpListIn_store_mid rfl 28 (.tmp 14) (.tmp 80) rfl g14 0 (byteCells nb).toArray rfl rfl (by exact hCb.out.there' hG9.out hvl) (by exact hCb.out.size) (by exact hCb.out.one) ?_)
                | fail)
              obtain ⟨W10, hW10⟩ : ∃ W10, W9.setCells g14 0 (byteCells nb) = W10 := ⟨_, rfl⟩
              rw [hW10]
              obtain ⟨hG10, hB10⟩ := hCb.out.set (w := w) hG9.out hvl hW10 (hB8'.out.trans (hb9'.out.mono hB8'.out.size)) (by omega)
              have hJ10 := holds_far hJ9.out (Ne.symm hne_g14_g15) hW10
              have hO10 := holds_far hO9.out (show w.heap.size ≠ g14 by omega) hW10
              have hR10 := holds_far hR9.out (show w.heap.size + 1 ≠ g14 by omega) hW10
              have hg10 := grown_put (g := g14) hb9'.out hW10
              have hsz8 := Nat.le_trans hsz hg8.out.size
              refine ⟨(KeepsFrom.of_grownBy hg8.out (fun j e => by have := Option.some.inj e; have h1 := hz6'.out; omega)).trans (KeepsFrom.of_grownBy hg10 (fun j e => by have := Option.some.inj e; have h1 := hz6'.out; omega)), (KeepE.grown2 hsz hg8.out).trans (KeepE.grown1 hsz8 hg10), ⟨?_, ?_, hO10, hR10, Nat.le_trans hsz8 hg10.size⟩, hB10⟩
              · rw [hsn.out]
                exact hJ10
              · rw [hsb.out, if_neg (by simp), ← hnb.out (by first | rfl | trivial)]
                exact hG10
            · skip
              gi_wp2_with (first
                  | ((with_reducible refine at_slotIn (some 70) ?_); refine wpListIn_load_mid rfl 82 (.tmp 16) rfl b1 0 rfl [.bool true, .int .i64 (lo : Int), .int .i64 (hi : Int)] _ (by exact h_all hT'.out) Try.underlying82 rfl (by kernel_rfl) ?_)
                  | ((with_reducible refine at_slotIn (some 71) ?_); refine wpListIn_load_mid rfl 28 (.tmp 15) rfl g15 0 rfl (byteCells (upSo old pre)) _ (by exact h_all hJ'.out) Try.underlying28 rfl (by exact hi2) ?_)
                  | ((with_reducible refine at_slotIn (some 72) ?_); refine wpListIn_load_mid rfl 28 (.tmp 17) rfl b2 0 rfl (byteCells xh) _ (by exact h_all hX'.out) Try.underlying28 rfl (by exact hi1) ?_)
                  | fail)
              refine ⟨trivial, (CallsIn.inRound l (callsIn_wide.2 (hj.out W))).mono ?_⟩
              rintro e W7 ⟨rfl, hb7⟩
              have hJ7 := hid (hJ'.out.below hb7 hJ'.out.lt)
              have hG7 := hid (hG'.out.below hb7 hG'.out.lt)
              have hO7 := hid (hO'.out.below hb7 hO'.out.lt)
              have hR7 := hid (hR'.out.below hb7 hR'.out.lt)
              have hT7 := hid (hT'.out.below hb7 hT'.out.lt)
              have hX7 := hid (hX'.out.below hb7 hX'.out.lt)
              have hb7' := hid hb7
              clear hb7
              gi_wp2_with (first
                | ((with_reducible refine at_slotIn none ?_); refine wpListIn_store_mid rfl 28 (.tmp 15) (.tmp 73) rfl g15 0 (byteCells nd).toArray rfl rfl (by exact hCn.out.there' hJ7.out hul) (by exact hCn.out.size) (by exact hCn.out.one) ?_; generalize hW8 : World.setCells _ _ _ _ = W8; obtain ⟨hJ8, hB8⟩ := hCn.out.set (w := w) hJ7.out hul hW8 (hB'.out.trans (hb7'.out.mono hB'.out.size)) (by omega); have hJ8' := hid hJ8; have hB8' := hid hB8; have hG8 := hid (holds_far hG7.out hne_g14_g15 hW8); have hO8 := hid (holds_far hO7.out (by omega) hW8); have hR8 := hid (holds_far hR7.out (by omega) hW8); have hT8 := hid (holds_far hT7.out (by omega) hW8); have hX8 := hid (holds_far hX7.out (by omega) hW8); have ct : W8.cell? ⟨b1, 0, none⟩ = some (.bool true) := hT8.out.cell 0; have hg8 := hid (grown_put (g := g15) hb7'.out hW8); clear hW8 hJ8 hB8)
                | fail)
              refine ⟨KeepsFrom.of_grownBy hg8.out (fun j e => by have := Option.some.inj e; have h1 := hz6'.out; omega), KeepE.grown2 hsz hg8.out, ⟨?_, ?_, hO8.out, hR8.out, Nat.le_trans hsz hg8.out.size⟩, hB8'.out⟩
              · rw [hsn.out]
                exact hJ8'.out
              · rw [hsb.out, if_pos (by first | rfl | trivial)]
                exact hG8.out
          case done =>
            rintro D ys W hD hys ⟨⟨hJ, hG, hO, hR, hsz⟩, hB⟩ hK
            have hU32 := upSo_len _ hf32.out ys
            have hV32 := befSo_len _ hf32.out ys
            rw [upSo_all old ts ps hl'.out.symm ys hys] at hJ hU32
            rw [befSo_all old ts ps hl'.out.symm ys hys] at hG hV32
            obtain ⟨hV, hU⟩ := y2r.out (by first | rfl | trivial)
            have hok := y1r.out.2 (by first | rfl | trivial)
            have hE1 := hE'.out
            rw [hV, hU] at hE1
            have hE2 := hid hE1
            have hok' := hid hok
            have hK' := hid hK
            have hJ' := hid hJ
            have hG' := hid hG
            have hO' := hid hO
            have hR' := hid hR
            have hB' := hid hB
            have hwD := hid (show w.heap.size ≤ D from by have h1 := hD; have h2 := hz6'.out; have h3 := hw1.out; have h4 := hz4.out; have h5 := hzb.out; omega)
            generalize Mth.upAll nodeH old ts ps = U at *
            generalize Mth.befAll nodeH old ts ps = V at *
            have hCU := hid (hash_cells U hU32)
            have hCV := hid (hash_cells V hV32)
            have hU0 := hid hU32
            have hV0 := hid hV32
            clear hK hJ hG hO hR hB hU hV hok hE1 hU32 hV32 hys hD
            have hfin := hid (show Below w.heap.size w (W.putObj D (.deferred none)) from hB'.out.trans (belowK_b (w := w) (Nat.le_refl _) W D _ _ hwD.out hK'.out rfl rfl))
            obtain ⟨bv, hbv⟩ : ∃ b, (!(V == old)) = b := ⟨_, rfl⟩
            obtain ⟨bu, hbu⟩ : ∃ b, (!(U == root)) = b := ⟨_, rfl⟩
            have hbv' := hid hbv
            have hbu' := hid hbu
            clear hbv hbu
            cases bv
            · have hVo : V = old := by simpa using hbv'.out
              have hVo' := hid hVo
              clear hVo
              cases bu
              · have hUr : U = root := by simpa using hbu'.out
                have hUr' := hid hUr
                clear hUr
                go_wp2_with (first
                  | ((with_reducible refine at_slot (some 81) ?_); refine wpList_load_mid rfl 28 (.tmp 14) rfl g14 0 rfl (byteCells V) _ (by exact h_all hG'.out) Try.underlying28 rfl (by exact hCV.out.size') ?_)
                  | ((with_reducible refine at_slot (some 82) ?_); refine wpList_load_mid rfl 28 (.tmp 6) rfl w.heap.size 0 rfl (byteCells old) _ (by exact h_all hO'.out) Try.underlying28 rfl (by exact hCo.out.size') ?_)
                  | ((with_reducible refine at_slot (some 83) ?_); refine wpList_hneq rfl (.tmp 81) (.tmp 82) _ rfl V old hV0.out ho'.out rfl rfl ?_; rw [hbv'.out])
                  | ((with_reducible refine at_slot (some 85) ?_); refine wpList_load_on (by kernel_rfl) 28 (.tmp 15) rfl g15 0 rfl (byteCells U) _ (by exact h_all hJ'.out) Try.underlying28 rfl (by exact hCU.out.size') ?_)
                  | ((with_reducible refine at_slot (some 86) ?_); refine wpList_load_on (by kernel_rfl) 28 (.tmp 8) rfl (w.heap.size + 1) 0 rfl (byteCells root) _ (by exact h_all hR'.out) Try.underlying28 rfl (by exact hCr.out.size') ?_)
                  | ((with_reducible refine at_slot (some 87) ?_); refine wpList_hneq_on (by kernel_rfl) (.tmp 85) (.tmp 86) _ rfl U root hU0.out hr'.out rfl rfl ?_; rw [hbu'.out])
                  | fail)
                refine ⟨by simp, .inl ⟨_, _, rfl, run_takeDeferred hK'.out, ?_⟩⟩
                exact ⟨_, results_tmp rfl _ _ _, by rw [hE2.out, if_pos ⟨hok'.out, hVo'.out, hUr'.out⟩]; rfl, hfin.out⟩
              · have hUr : U ≠ root := by simpa using hbu'.out
                go_wp2_with (first
                  | ((with_reducible refine at_slot (some 81) ?_); refine wpList_load_mid rfl 28 (.tmp 14) rfl g14 0 rfl (byteCells V) _ (by exact h_all hG'.out) Try.underlying28 rfl (by exact hCV.out.size') ?_)
                  | ((with_reducible refine at_slot (some 82) ?_); refine wpList_load_mid rfl 28 (.tmp 6) rfl w.heap.size 0 rfl (byteCells old) _ (by exact h_all hO'.out) Try.underlying28 rfl (by exact hCo.out.size') ?_)
                  | ((with_reducible refine at_slot (some 83) ?_); refine wpList_hneq rfl (.tmp 81) (.tmp 82) _ rfl V old hV0.out ho'.out rfl rfl ?_; rw [hbv'.out])
                  | ((with_reducible refine at_slot (some 85) ?_); refine wpList_load_on (by kernel_rfl) 28 (.tmp 15) rfl g15 0 rfl (byteCells U) _ (by exact h_all hJ'.out) Try.underlying28 rfl (by exact hCU.out.size') ?_)
                  | ((with_reducible refine at_slot (some 86) ?_); refine wpList_load_on (by kernel_rfl) 28 (.tmp 8) rfl (w.heap.size + 1) 0 rfl (byteCells root) _ (by exact h_all hR'.out) Try.underlying28 rfl (by exact hCr.out.size') ?_)
                  | ((with_reducible refine at_slot (some 87) ?_); refine wpList_hneq_on (by kernel_rfl) (.tmp 85) (.tmp 86) _ rfl U root hU0.out hr'.out rfl rfl ?_; rw [hbu'.out])
                  | fail)
                refine ⟨by simp, .inl ⟨_, _, rfl, run_takeDeferred hK'.out, ?_⟩⟩
                exact ⟨_, results_tmp rfl _ _ _, by rw [hE2.out, if_neg (fun h => hUr h.2.2)]; rfl, hfin.out⟩
            · have hVo : V ≠ old := by simpa using hbv'.out
              go_wp2_with (first
                | ((with_reducible refine at_slot (some 81) ?_); refine wpList_load_mid rfl 28 (.tmp 14) rfl g14 0 rfl (byteCells V) _ (by exact h_all hG'.out) Try.underlying28 rfl (by exact hCV.out.size') ?_)
                | ((with_reducible refine at_slot (some 82) ?_); refine wpList_load_mid rfl 28 (.tmp 6) rfl w.heap.size 0 rfl (byteCells old) _ (by exact h_all hO'.out) Try.underlying28 rfl (by exact hCo.out.size') ?_)
                | ((with_reducible refine at_slot (some 83) ?_); refine wpList_hneq rfl (.tmp 81) (.tmp 82) _ rfl V old hV0.out ho'.out rfl rfl ?_; rw [hbv'.out])
                | fail)
              refine ⟨by simp, .inl ⟨_, _, rfl, run_takeDeferred hK'.out, ?_⟩⟩
              exact ⟨_, results_tmp rfl _ _ _, by rw [hE2.out, if_neg (fun h => hVo h.2.1)]; rfl, hfin.out⟩
          case stop =>
            rintro D c pre W _ _ h _
            exact h.elim
      · have hli : ¬ (q : Int) = (ts.length : Int) := by omega
        have hno : ¬ (R.2.2 = true ∧ R.1 = old ∧ R.2.1 = root) := fun h => hlen (y1r.out.1 h.1)
        go_wp2_with (first
          | ((with_reducible refine at_slot (some 41) ?_); generalize hW2 : W1.alloc (.cells #[.int .i64 (e1 : Int), .int .i64 (e2 : Int)] 72) = W2 at *; clear hW2; have c0 : W2.cell? ⟨W1.heap.size, 0, none⟩ = some (.int .i64 (e1 : Int)) := hE4.out.cell 0; refine wpList_load_mid rfl 28 (.tmp 6) rfl w.heap.size 0 rfl (byteCells old) _ (by exact h_all hO4.out) Try.underlying28 rfl (by exact hCo.out.size') ?_)
          | ((with_reducible refine at_slot (some 13) ?_); refine wpList_run rfl (.pointer (some ⟨W2.heap.size, 0, none⟩)) (W2.alloc (.cells z32 28)) (by kernel_rfl) ?_)
          | ((with_reducible refine at_slot none ?_); refine wpList_store_mid rfl 28 (.tmp 13) (.tmp 41) rfl W2.heap.size 0 (byteCells old).toArray rfl rfl (by exact hCo.out.there W2) (by exact hCo.out.size) (by exact hCo.out.one) ?_; generalize hW3 : World.setCells _ _ _ _ = W3; obtain ⟨hF5, hb5⟩ := hCo.out.new hW3; have hF5' := hid hF5; have hO5 := hid (hO4.out.below hb5 hO4.out.lt); have hR5 := hid (hR4.out.below hb5 hR4.out.lt); have hB5 := hid (below_up hb5 hB4.out); have hat5 := hid (At.below hat4.out (hb5.mono (by have := hz4.out; omega))); have c0 : W3.cell? ⟨W1.heap.size, 0, none⟩ = some (.int .i64 (e1 : Int)) := ((hE4.out.below hb5 hE4.out.lt).cell 0); clear hW3 hF5 hb5)
          | fail)
        exact ⟨_, results_tmp rfl _ _ _, by rw [hE'.out, if_neg hno]; rfl, hB5.out⟩
  · have hE : ckConE m old size root ps = 1000 := if_neg hok
    rw [hE]
    have hno : size < 1 ∨ 256 < size ∨ m < 1 ∨ size < m := by
      unfold partOk at hok
      omega
    clear hok hE hP
    by_cases c1 : size < 1
    · go_wp2_with fail
      exact ⟨_, results_tmp rfl _ _ _, rfl, hB1.out⟩
    · by_cases c2 : 256 < size
      · go_wp2_with fail
        exact ⟨_, results_tmp rfl _ _ _, rfl, hB1.out⟩
      · by_cases c3 : m < 1
        · go_wp2_with fail
          exact ⟨_, results_tmp rfl _ _ _, rfl, hB1.out⟩
        · have c4 : size < m := by omega
          go_wp2_with fail
          exact ⟨_, results_tmp rfl _ _ _, rfl, hB1.out⟩

end Go.Proofs.Ytenfhmpjhbpkpaa
