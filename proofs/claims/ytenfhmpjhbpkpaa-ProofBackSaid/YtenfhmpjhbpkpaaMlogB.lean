/- Layer 9, the program's side: what slices.Backward yields.
   Layer 9, the program's side: Root of a tree.
   Layer 9, the program's side: Root of leaves.
   Layer 9, the reference's side: Root. -/
import Derived.Test.YtenfhmpjhbpkpaaMlogA
import Derived.Test.YtenfhmpjhbpkpaaInOps
namespace Go.Proofs.Ytenfhmpjhbpkpaa
open Go.RowKit Go.Shelf
open Go.Lib (strCells strCells_length strCells_oneCell)
attribute [local irreducible] Sha.compress Sha.blocks Sha.sha Sha.pad
attribute [local go_sem] Oper.semAt_some

/-- What is yielded: a place, a hash. -/
abbrev PH := { x : Nat × List UInt8 // x.2.length = 32 }

theorem back_snoc {hs : List (List UInt8)} {k : Nat} {x : List UInt8} (h : hs[k]? = some x) : (hs.drop k).reverse = (hs.drop (k + 1)).reverse ++ [x] := by
  obtain ⟨hk, e⟩ := List.getElem?_eq_some_iff.1 h
  rw [List.drop_eq_getElem_cons hk, List.reverse_cons, e]

set_option maxRecDepth 100000 in
set_option maxHeartbeats 2000000 in
/-- The iterator of slices.Backward, whatever the loop's body does to the one block a. -/
theorem back_stops (m n₁ a b1 : Nat) (h1 : b1 < n₁) (h1a : b1 ≠ a) (A : Option Addr) (n c : Nat) (hs : List (List UInt8)) (h32 : ∀ x ∈ hs, x.length = 32) (hn : n ≤ 10000000000000)
    (hl : hs.length = n) (w : World) (hn1 : n₁ ≤ w.heap.size) (c1 : w.cell? ⟨b1, 0, none⟩ = some (.slice A n c))
    (hX : ∀ k x, hs[k]? = some x → ∃ rb, A = some ⟨rb, 0, none⟩ ∧ rb < n₁ ∧ rb ≠ a ∧ w.rangeAt rb (k * 32) (byteCells x)) :
    SeqStopsK Fence.wide (m + 1) Try.prog 60 #[.pointer (some ⟨b1, 0, none⟩)] (fun x : PH => #[.int .i64 (x.1.1 : Int), .agg (byteCells x.1.2).toArray]) (KeepB n₁ a) (fun ys => ys.map (·.1.2) = hs.reverse) (fun _ => True) n w := fun l J Jx W hW hJ _ hY h0 => by
  have d1 := (hW.cell (p := ⟨b1, 0, none⟩) (by show b1 < _; omega)).trans c1
  have hW1 : n₁ ≤ W.heap.size := Nat.le_trans hn1 hW.size
  have hXW : ∀ k x, hs[k]? = some x → ∃ rb, A = some ⟨rb, 0, none⟩ ∧ rb < n₁ ∧ rb ≠ a ∧ W.rangeAt rb (k * 32) (byteCells x) := fun k x hk => by
    obtain ⟨rb, q1, q2, q3, q4⟩ := hX k x hk
    exact ⟨rb, q1, q2, q3, fun j v hv => (hW.cell (p := ⟨rb, k * 32 + j, none⟩) (by show rb < _; omega)).trans (q4 j v hv)⟩
  have hXW' := hid hXW
  clear hXW hX
  have hbk := hid hJ
  clear hJ
  refine callsIn_of_wp Try.func60 rfl trivial ?_ rfl
  simp only [Try.ntmps60, List.size_toArray, List.length_cons, List.length_nil, Nat.reduceAdd, Nat.reduceSub, Array.replicate_succ, Array.replicate_zero, List.push_toArray, List.append_toArray, List.nil_append, List.cons_append]
  have hw0 := IntWalk.i64_in ((n : Int) - 1) (by omega)
  gi_wp2_with fail
  gi_loopw [3] (fun i wr => ∃ (k : Nat) (pre : List PH), k ≤ n ∧ i = .int .i64 ((k : Int) - 1) ∧ pre.map (·.1.2) = (hs.drop k).reverse ∧ J pre wr ∧ KeepB n₁ a W wr) (fun i _ => (intOf i + 1).toNat)
  case atStart => exact ⟨n, [], Nat.le_refl _, rfl, by rw [List.drop_of_length_le (by omega)]; rfl, h0, KeepB.refl _ _ _⟩
  case round =>
    obtain ⟨k, pre, hk, rfl, hpre, hJp, hkw⟩ := hrel
    have d2 := (hkw.cell (p := ⟨b1, 0, none⟩) h1 h1a).trans d1
    by_cases h0k : k = 0
    · subst h0k
      have hneg : ¬ (0 : Int) ≤ ((0 : Nat) : Int) - 1 := by omega
      rw [List.drop_zero] at hpre
      gi_wp2
      go_end0
      exact ⟨⟨_, rfl⟩, .inl ⟨pre, hpre, hJp⟩⟩
    · obtain ⟨i, rfl⟩ : ∃ i, k = i + 1 := ⟨k - 1, by omega⟩
      obtain ⟨x, hx⟩ : ∃ x, hs[i]? = some x := ⟨_, List.getElem?_eq_getElem (by omega)⟩
      have hx32 := h32 x (List.mem_of_getElem? hx)
      obtain ⟨rb, rfl, q2, q3, q4⟩ := hXW'.out i x hx
      have hrg := hkw.range q2 q3 q4
      have hplen : pre.length = n - (i + 1) := by
        have := congrArg List.length hpre
        rw [List.length_map, List.length_reverse, List.length_drop, hl] at this
        omega
      have hnx := back_snoc hx
      have hi1 : (((i + 1 : Nat) : Int) - 1) = (i : Int) := by omega
      have hpos : (0 : Int) ≤ (i : Int) := by omega
      have hlt : (i : Int) < (n : Int) := by omega
      have hto : (i : Int).toNat = i := by omega
      have hiz : (Try.prog.info? 28).map (·.size) = some (byteCells x).length := by rw [Try.infoHash, byteCells, List.length_map, hx32]
      have hnx' := hid hnx
      have hkw' := hid hkw
      obtain ⟨fn3, tmps3, assign3, body3, hy3, hR3⟩ := hY pre ⟨(i, x), hx32⟩ wr hJp (by omega)
      dsimp only at hy3
      rw [hi1]
      clear hnx hx hkw
      gi_wp2_with ((with_reducible refine at_slotIn (some 16) ?_); refine wpListIn_load_mid rfl 28 (.tmp 15) rfl rb (i * 32) rfl (byteCells x) _ (by exact hrg) Try.underlying28 rfl (by exact hiz) ?_)
      refine hR3.mono ?_
      rintro e W4 (⟨rfl, hJ4, hk5⟩ | ⟨rfl, hx4⟩)
      · gi_wp2_with fail
        go_roundw
        case rel => exact ⟨i, _, by omega, by go_num, by rw [List.map_append, hpre, hnx'.out]; rfl, hJ4, hkw'.out.trans hk5⟩
        case measure => simp [intOf]
      · gi_wp2_with fail
        refine bodyPost_ret (results_none rfl _ _ _) rfl ?_
        exact ⟨⟨_, rfl⟩, .inr ⟨_, trivial, hx4⟩⟩

theorem backward_any (A : Option Addr) (n c : Nat) (w : World) : Calls Try.prog 40 #[.slice A n c] w fun e w' => e = .returned (.func (.func 60) #[] #[.pointer (some ⟨w.heap.size, 0, none⟩)]) ∧ w' = w.alloc (.cells #[.slice A n c] 41) := by
  go_enter Try.func40, Try.ntmps40
  go_wp2
  go_ret
  exact ⟨rfl, rfl⟩

end Go.Proofs.Ytenfhmpjhbpkpaa
namespace Go.Proofs.Ytenfhmpjhbpkpaa
open Go.RowKit Go.Shelf
open Go.Lib (strCells strCells_length strCells_oneCell)
attribute [local go_sem] Oper.semAt_some
attribute [local irreducible] Sha.compress Sha.blocks Sha.sha Sha.pad

theorem over_foldr : ∀ (ws : List (List UInt8)) (z : List UInt8), Mth.over nodeH (ws ++ [z]) = some (ws.foldr nodeH z)
  | [], z => rfl
  | a :: ws, z => by
    rw [List.cons_append, Mth.over_cons nodeH a (ws ++ [z]) (by simp), over_foldr ws z]
    rfl

/-- The root so far. -/
def rootSo (z : List UInt8) (pre : List PH) : List UInt8 := pre.foldl (fun r x => nodeH x.1.2 r) z
theorem rootSo_snoc (z : List UInt8) (pre : List PH) (x : PH) : rootSo z (pre ++ [x]) = nodeH x.1.2 (rootSo z pre) := by simp [rootSo]
theorem rootSo_len (z : List UInt8) (hz : z.length = 32) : ∀ pre : List PH, (rootSo z pre).length = 32 := by
  intro pre
  rcases List.eq_nil_or_concat pre with rfl | ⟨l, x, rfl⟩
  · exact hz
  · rw [List.concat_eq_append, rootSo_snoc]
    exact nodeH_len _ _
theorem rootSo_all (z : List UInt8) (ws : List (List UInt8)) (ys : List PH) (h : ys.map (·.1.2) = ws.reverse) : rootSo z ys = ws.foldr nodeH z := by
  have e : rootSo z ys = (ys.map (·.1.2)).foldl (fun r x => nodeH x r) z := by
    unfold rootSo
    rw [List.foldl_map]
  rw [e, h, List.foldl_reverse]

theorem wp_run {P : Program} {o : Oper} {a : Act} {w : World} {K : Act → World → Prop} {Q : Exit → Act → World → Prop} (v : Value) (w' : World) (hrun : (execOp a.eval o).run P w = .ok (.value v) w') (h : K (a.put o.dst v) w') : o.wp P a w K Q := by
  unfold Oper.wp
  rw [hrun, Oper.upon_value]
  exact h

noncomputable def rtPart (n : Nat) : Code := partSeq n ((Try.f15.body).getD .skip)
noncomputable def rtTail : Code := dropSeq 3 ((Try.f15.body).getD .skip)
theorem rt_body : Try.f15.body = some (.seq (rtPart 0) (.seq (rtPart 1) (.seq (rtPart 2) rtTail))) := by kernel_rfl

set_option maxRecDepth 100000 in
set_option maxHeartbeats 2000000 in
theorem tRoot_any (g : Nat) (xs : List ByteArray) (r : Option Nat) (w : World) (h : TreeAt w g xs r) :
    Calls Try.prog 15 #[.pointer (some ⟨g, 0, none⟩)] w fun e w' => e = .returned (hv (rootH xs)) ∧ Below w.heap.size w w' := by
  have hlt := h.lt
  obtain ⟨A0, c0, h1, h2, h3, h4, h5⟩ := h
  unfold hv
  obtain ⟨W1, hW1⟩ : ∃ W1, w.alloc (.cells z32 28) = W1 := ⟨_, rfl⟩
  have hR1 : Holds W1 w.heap.size 28 z32.toList := by rw [← hW1]; exact Holds.new w _ _
  have hb1 : Below w.heap.size w W1 := by rw [← hW1]; exact (Below.refl _ _).alloc (Nat.le_refl _) _
  have hs1 : W1.heap.size = w.heap.size + 1 := by rw [← hW1]; simp
  have hT1 := h1.below hb1 hlt.1
  have hn1 : W1.cell? ⟨g, 1, none⟩ = some (.int .i64 (xs.length : Int)) := hT1.cell 1
  have hW1' := hid hW1
  have hR1' := hid hR1
  have hb1' := hid hb1
  have hs1' := hid hs1
  have hT1' := hid hT1
  clear hW1 hR1 hb1 hs1 hT1
  refine callsIn_wide.1 (callsIn_of_wp_marks (n := 10) Try.func15 rt_body trivial ?_ rfl)
  have hfr : (#[.pointer (some ⟨g, 0, none⟩)] ++ Array.replicate (Try.f15.ntmps - (#[.pointer (some ⟨g, 0, none⟩)] : Array Value).size) undef : Array Value) = #[.pointer (some ⟨g, 0, none⟩), undef, undef, undef, undef, undef, undef, undef, undef, undef, undef, undef, undef, undef, undef, undef, undef, undef, undef, undef, undef, undef, undef, undef, undef, undef, undef, undef, undef, undef, undef, undef, undef, undef, undef, undef, undef, undef, undef, undef, undef, undef, undef, undef, undef] := by kernel_rfl
  rw [hfr]
  refine wpIn_wide.2 ?_
  refine wp_seq ?_
  conv => arg 2; whnf
  go_wp2_with ((with_reducible refine at_slot (some 2) ?_); refine wpList_run rfl (.pointer (some ⟨w.heap.size, 0, none⟩)) (w.alloc (.cells z32 28)) (by kernel_rfl) ?_; rw [hW1'.out])
  conv => arg 2; whnf
  go_wp2_with fail
  conv => arg 2; whnf
  by_cases h0 : xs.length = 0
  · obtain rfl : xs = [] := List.length_eq_zero_iff.1 h0
    have hs := hid (fun W => sum_any ⟨#[]⟩ W (by decide))
    have hC := hid (hash_root [])
    have he : rootH [] = Sha.sha [] := rfl
    unfold hashV at hs
    have he2 : ((⟨#[]⟩ : ByteArray).data.toList) = [] := rfl
    rw [he2, ← he] at hs
    clear he he2
    obtain ⟨cs, hcs⟩ : ∃ cs, byteCells (rootH []) = cs := ⟨_, rfl⟩
    rw [hcs] at hs hC
    have hcs' := hid hcs
    clear hcs
    go_wp2_with fail
    refine (hs.out _).mono ?_
    rintro e W2 ⟨rfl, hb2⟩
    have hR2 := hid (hR1'.out.below hb2 hR1'.out.lt)
    have hB2 := hid (hb1'.out.trans (hb2.mono (by have := hs1'.out; omega)))
    clear hb2
    rename_i hK1
    refine hK1 _ _ ?_
    clear hK1
    refine wpList_store_mid rfl 28 (.tmp 2) (.tmp 14) rfl w.heap.size 0 cs.toArray rfl rfl (by exact hC.out.there' hR2.out rfl) (by exact hC.out.size) (by exact hC.out.one) ?_
    generalize hW3 : World.setCells _ _ _ _ = W3
    obtain ⟨hH3, hB3⟩ := hC.out.set hR2.out rfl hW3 hB2.out (Nat.le_refl _)
    have hH3' := hid hH3
    have hB3' := hid hB3
    clear hW3 hH3 hB3
    go_wp2_with fail
    exact ⟨_, results_cell_row rfl _ _ w.heap.size 28 _ (0, 0) _ rfl hH3'.out Try.underlying28 rfl (by exact hC.out.size), by rw [hcs'.out], hB3'.out⟩
  · have hne : ((xs.length : Int) == 0) = false := by rw [beq_eq_false_iff_ne]; omega
    obtain ⟨ws, z, hwz⟩ : ∃ ws z, wholeH xs = ws ++ [z] := by
      have hn0 : wholeH xs ≠ [] := Mth.wholes_ne nodeH (leavesH xs) (by rw [leavesH_length]; omega)
      exact ⟨(wholeH xs).dropLast, (wholeH xs).getLast hn0, (List.dropLast_concat_getLast hn0).symm⟩
    have hall := wholeH_len xs
    have hshort := wholeH_short xs
    have hover := rootH_over xs (by omega)
    rw [hwz, over_foldr] at hover
    have hroot : rootH xs = ws.foldr nodeH z := (Option.some.inj hover).symm
    rw [hwz] at h2 hall hT1' hshort
    obtain ⟨k, hk⟩ : ∃ k, ws.length = k := ⟨_, rfl⟩
    have hkl : (ws ++ [z]).length = k + 1 := by rw [List.length_append, hk]; rfl
    rw [hkl] at h2 hT1' hshort
    obtain ⟨rb, rfl, hcap⟩ : ∃ rb, A0 = some ⟨rb, 0, none⟩ ∧ k + 1 ≤ c0 := by
      rcases h2.2 with ⟨_, e0⟩ | ⟨gg, cap, cur, hv, _, _, h5, _⟩
      · omega
      · injection hv with q1 _ q2
        exact ⟨gg, q1, by omega⟩
    have hrbw : rb < w.heap.size := hlt.2 rb (by rw [← h3]; rfl)
    have hrow1 : W1.ownsRow 0 28 32 (.slice (some ⟨rb, 0, none⟩) (k + 1) c0) (k + 1) (hashCells (ws ++ [z])) := row_of_blocks h2 (fun q hq => hb1'.out.block q (by obtain rfl : rb = q := Option.some.inj hq; exact hrbw))
    have hz32 : z.length = 32 := hall z (by simp)
    have hw32 : ∀ x ∈ ws, x.length = 32 := fun x hx => hall x (by simp [hx])
    have hzr : W1.rangeAt rb (k * 32) (byteCells z) := row_range hrow1 hall (by rw [List.getElem?_append_right (by omega), hk, Nat.sub_self]; rfl)
    have hxr : ∀ i x, ws[i]? = some x → W1.rangeAt rb (i * 32) (byteCells x) := fun i x hx => row_range hrow1 hall (by rw [List.getElem?_append_left (List.getElem?_eq_some_iff.1 hx).1]; exact hx)
    have hg0 : W1.cell? ⟨g, 0, none⟩ = some (.slice (some ⟨rb, 0, none⟩) (k + 1) c0) := hT1'.out.cell 0
    have hCz := hid (hash_cells z hz32)
    have hroot' := hid hroot
    have hk' := hid hk
    have hw32' := hid hw32
    have hxr' := hid hxr
    have hz32' := hid hz32
    have hrbw' := hid hrbw
    have hglt := hid hlt.1
    have hkle : k ≤ 10000000000000 := by omega
    have hkw := IntWalk.i64_in (((k + 1 : Nat) : Int) - 1) (by omega)
    have hki : ((k + 1 : Nat) : Int) - 1 = (k : Int) := by omega
    rw [hki] at hkw
    have hk0 : (0 : Int) ≤ (k : Int) := by omega
    have hklt : (k : Int) < (k : Int) + 1 := by omega
    have hto : (k : Int).toNat = k := by omega
    have hkc : (k : Int) ≤ (c0 : Int) := by omega
    have hu := Try.underlying28
    have hiz : (Try.prog.info? 28).map (·.size) = some (byteCells z).length := hCz.out.size'
    clear hover hwz hall hshort hroot hk hkl h2 hrow1 hrbw hw32 hxr h3 h4 hlt h0 h1
    go_wp2_with fail
    conv => arg 2; whnf
    go_wp2_with fail
    refine wp_region_noPanic ?_
    refine wp_region_held_drew (S := fun W => W.cell? ⟨g, 0, none⟩ = some (.slice (some ⟨rb, 0, none⟩) (k + 1) c0) ∧ W.rangeAt rb (k * 32) (byteCells z)) (by kernel_rfl) (by exact ⟨hg0, hzr⟩) (fun hHeld => ?_)
    refine wpAnyH_take (i := 0) (v := .pointer (some ⟨g, 0, none⟩)) rfl (by kernel_rfl) (by kernel_rfl) (by kernel_rfl) (fun _ _ _ h => h) (yieldsIf_move _ rfl rfl rfl) hHeld ?_
    simp only [ly1, ly2, ly3, Act.put, ly5, ly6, ly7]
    refine wpAnyH_take (i := 1) (v := .pointer (some ⟨g, 0, none⟩)) rfl (by kernel_rfl) (by kernel_rfl) (by kernel_rfl) (fun _ _ _ h => h) (.inl ⟨by kernel_rfl, fun w _ => by go_simp⟩) hHeld ?_
    simp only [ly1, ly2, ly3, Act.put, ly5, ly6, ly7]
    refine wpAnyH_take (i := 2) (v := .pointer (some ⟨g, 0, none⟩)) rfl (by kernel_rfl) (by kernel_rfl) (by kernel_rfl) (fun _ _ _ h => h) (.inl ⟨by kernel_rfl, fun w _ => by go_simp⟩) hHeld ?_
    simp only [ly1, ly2, ly3, Act.put, ly5, ly6, ly7]
    refine wpAnyH_take (i := 3) (v := .slice (some ⟨rb, 0, none⟩) (k + 1) c0) rfl (by kernel_rfl) (by kernel_rfl) (by kernel_rfl) (fun _ _ _ h => h) (.inl ⟨by kernel_rfl, fun W hS => by have hS' : W.cell? ⟨g, 0, none⟩ = some (.slice (some ⟨rb, 0, none⟩) (k + 1) c0) := hS.1; go_simp⟩) hHeld ?_
    simp only [ly1, ly2, ly3, Act.put, ly5, ly6, ly7]
    refine wpAnyH_take (i := 4) (v := .pointer (some ⟨g, 0, none⟩)) rfl (by kernel_rfl) (by kernel_rfl) (by kernel_rfl) (fun _ _ _ h => h) (yieldsIf_move _ rfl rfl rfl) hHeld ?_
    simp only [ly1, ly2, ly3, Act.put, ly5, ly6, ly7]
    refine wpAnyH_take (i := 5) (v := .pointer (some ⟨g, 0, none⟩)) rfl (by kernel_rfl) (by kernel_rfl) (by kernel_rfl) (fun _ _ _ h => h) (.inl ⟨by kernel_rfl, fun w _ => by go_simp⟩) hHeld ?_
    simp only [ly1, ly2, ly3, Act.put, ly5, ly6, ly7]
    refine wpAnyH_take (i := 6) (v := .pointer (some ⟨g, 0, none⟩)) rfl (by kernel_rfl) (by kernel_rfl) (by kernel_rfl) (fun _ _ _ h => h) (.inl ⟨by kernel_rfl, fun w _ => by go_simp⟩) hHeld ?_
    simp only [ly1, ly2, ly3, Act.put, ly5, ly6, ly7]
    refine wpAnyH_take (i := 7) (v := .slice (some ⟨rb, 0, none⟩) (k + 1) c0) rfl (by kernel_rfl) (by kernel_rfl) (by kernel_rfl) (fun _ _ _ h => h) (.inl ⟨by kernel_rfl, fun W hS => by have hS' : W.cell? ⟨g, 0, none⟩ = some (.slice (some ⟨rb, 0, none⟩) (k + 1) c0) := hS.1; go_simp⟩) hHeld ?_
    simp only [ly1, ly2, ly3, Act.put, ly5, ly6, ly7]
    refine wpAnyH_take (i := 8) (v := .int .i64 ((k + 1 : Nat) : Int)) rfl (by kernel_rfl) (by kernel_rfl) (by kernel_rfl) (fun _ _ _ h => h) (.inl ⟨by kernel_rfl, fun w _ => by go_simp⟩) hHeld ?_
    simp only [ly1, ly2, ly3, Act.put, ly5, ly6, ly7]
    refine wpAnyH_take (i := 9) (v := .int .i64 (k : Int)) rfl (by kernel_rfl) (by kernel_rfl) (by kernel_rfl) (fun _ _ _ h => h) (.inl ⟨by kernel_rfl, fun w _ => by go_simp⟩) hHeld ?_
    simp only [ly1, ly2, ly3, Act.put, ly5, ly6, ly7]
    refine wpAnyH_take (i := 10) (v := .pointer (some ⟨rb, k * 32, none⟩)) rfl (by kernel_rfl) (by kernel_rfl) (by kernel_rfl) (fun _ _ _ h => h) (.inl ⟨by kernel_rfl, fun w _ => by go_simp⟩) hHeld ?_
    simp only [ly1, ly2, ly3, Act.put, ly5, ly6, ly7]
    refine wpAnyH_take (i := 11) (v := .agg (byteCells z).toArray) rfl (by kernel_rfl) (by kernel_rfl) (by kernel_rfl) (fun _ _ _ h => h) (yieldsIf_load_mid (by kernel_rfl) _ _ rfl _ _ rfl _ _ (fun W h => h.2) hu rfl hiz) hHeld ?_
    simp only [ly1, ly2, ly3, Act.put, ly5, ly6, ly7]
    refine wpAnyH_ready (rs := [12]) (by kernel_rfl) (by simp) (AllReadyH.cons rfl (fun K hK => ?_) AllReadyH.nil)
    have hK' := hid hK
    clear hK
    rw [if_pos (by kernel_rfl)]
    simp only [ly1, ly2, ly3]
    refine wp_run (.pointer (some ⟨W1.drew.heap.size, 0, none⟩)) (W1.drew.alloc (.cells z32 28)) (by kernel_rfl) ?_
    have hba : Below W1.drew.heap.size W1.drew (W1.drew.alloc (.cells z32 28)) := (Below.refl _ _).alloc (Nat.le_refl _) _
    have hW1s := hs1'.out
    have hgl := hglt.out
    have hrl := hrbw'.out
    have hgA : (W1.drew.alloc (.cells z32 28)).cell? ⟨g, 0, none⟩ = some (.slice (some ⟨rb, 0, none⟩) (k + 1) c0) := (hT1'.out.drew.below hba (by show g < W1.heap.size; omega)).cell 0
    have hrA : (W1.drew.alloc (.cells z32 28)).rangeAt rb (k * 32) (byteCells z) := fun j v hv => (hba.cell (p := ⟨rb, k * 32 + j, none⟩) (by show rb < W1.heap.size; omega)).trans (hzr j v hv)
    refine hK'.out _ _ (by exact ⟨hgA, hrA⟩) (fun hHeld => ?_)
    clear hK' K
    refine wpAnyH_ready (rs := [13]) (by kernel_rfl) (by simp) (AllReadyH.cons rfl (fun K hK => ?_) AllReadyH.nil)
    have hK' := hid hK
    clear hK
    rw [if_pos (by kernel_rfl)]
    simp only [ly1, ly2, ly3]
    refine wp_store_mid _ _ _ rfl W1.drew.heap.size 0 (byteCells z).toArray rfl rfl (by exact hCz.out.there W1.drew) (by exact hCz.out.size) (by exact hCz.out.one) ?_
    generalize hW3 : World.setCells _ _ _ _ = W3
    obtain ⟨hH3, hB3⟩ := hCz.out.new hW3
    have hg3 : W3.cell? ⟨g, 0, none⟩ = some (.slice (some ⟨rb, 0, none⟩) (k + 1) c0) := (hT1'.out.drew.below hB3 (by show g < W1.heap.size; omega)).cell 0
    have hr3 : W3.rangeAt rb (k * 32) (byteCells z) := fun j v hv => (hB3.cell (p := ⟨rb, k * 32 + j, none⟩) (by show rb < W1.heap.size; omega)).trans (hzr j v hv)
    have hH3' := hid hH3
    have hB3' := hid hB3
    have hR3 := hid (hR1'.out.drew.below hB3 (by show w.heap.size < W1.heap.size; omega))
    have hbw3 := hid (hb1'.out.drew.trans (hB3.mono (by show w.heap.size ≤ W1.heap.size; omega)))
    have hx3 := hid (fun i x hx => show W3.rangeAt rb (i * 32) (byteCells x) from fun j v hv => (hB3.cell (p := ⟨rb, i * 32 + j, none⟩) (by show rb < W1.heap.size; omega)).trans (hxr'.out i x hx j v hv))
    clear hW3 hH3 hB3 hba
    refine hK'.out _ _ (by exact ⟨hg3, hr3⟩) (fun hHeld => ?_)
    clear hK' K
    refine wpAnyH_done (by kernel_rfl) ?_ _
    refine NoPanic.normal ?_
    clear hgA hrA hr3 hHeld hzr hxr'
    have hq : W1.drew.heap.size = w.heap.size + 1 := hW1s
    rw [hq] at hH3'
    conv => arg 2; whnf
    go_wp2_with fail
    refine wp_region_noPanic ?_
    refine wp_region_held_drew (S := fun W => W.cell? ⟨g, 0, none⟩ = some (.slice (some ⟨rb, 0, none⟩) (k + 1) c0)) (by kernel_rfl) (by exact hg3) (fun hHeld => ?_)
    refine wpAnyH_take (i := 0) (v := .pointer (some ⟨g, 0, none⟩)) rfl (by kernel_rfl) (by kernel_rfl) (by kernel_rfl) (fun _ _ _ h => h) (yieldsIf_move _ rfl rfl rfl) hHeld ?_
    simp only [ly1, ly2, ly3, Act.put, ly5, ly6, ly7]
    refine wpAnyH_take (i := 1) (v := .pointer (some ⟨g, 0, none⟩)) rfl (by kernel_rfl) (by kernel_rfl) (by kernel_rfl) (fun _ _ _ h => h) (.inl ⟨by kernel_rfl, fun w _ => by go_simp⟩) hHeld ?_
    simp only [ly1, ly2, ly3, Act.put, ly5, ly6, ly7]
    refine wpAnyH_take (i := 2) (v := .pointer (some ⟨g, 0, none⟩)) rfl (by kernel_rfl) (by kernel_rfl) (by kernel_rfl) (fun _ _ _ h => h) (.inl ⟨by kernel_rfl, fun w _ => by go_simp⟩) hHeld ?_
    simp only [ly1, ly2, ly3, Act.put, ly5, ly6, ly7]
    refine wpAnyH_take (i := 3) (v := .slice (some ⟨rb, 0, none⟩) (k + 1) c0) rfl (by kernel_rfl) (by kernel_rfl) (by kernel_rfl) (fun _ _ _ h => h) (.inl ⟨by kernel_rfl, fun W hS => by have hS' : W.cell? ⟨g, 0, none⟩ = some (.slice (some ⟨rb, 0, none⟩) (k + 1) c0) := hS; go_simp⟩) hHeld ?_
    simp only [ly1, ly2, ly3, Act.put, ly5, ly6, ly7]
    refine wpAnyH_take (i := 4) (v := .pointer (some ⟨g, 0, none⟩)) rfl (by kernel_rfl) (by kernel_rfl) (by kernel_rfl) (fun _ _ _ h => h) (yieldsIf_move _ rfl rfl rfl) hHeld ?_
    simp only [ly1, ly2, ly3, Act.put, ly5, ly6, ly7]
    refine wpAnyH_take (i := 5) (v := .pointer (some ⟨g, 0, none⟩)) rfl (by kernel_rfl) (by kernel_rfl) (by kernel_rfl) (fun _ _ _ h => h) (.inl ⟨by kernel_rfl, fun w _ => by go_simp⟩) hHeld ?_
    simp only [ly1, ly2, ly3, Act.put, ly5, ly6, ly7]
    refine wpAnyH_take (i := 6) (v := .pointer (some ⟨g, 0, none⟩)) rfl (by kernel_rfl) (by kernel_rfl) (by kernel_rfl) (fun _ _ _ h => h) (.inl ⟨by kernel_rfl, fun w _ => by go_simp⟩) hHeld ?_
    simp only [ly1, ly2, ly3, Act.put, ly5, ly6, ly7]
    refine wpAnyH_take (i := 7) (v := .slice (some ⟨rb, 0, none⟩) (k + 1) c0) rfl (by kernel_rfl) (by kernel_rfl) (by kernel_rfl) (fun _ _ _ h => h) (.inl ⟨by kernel_rfl, fun W hS => by have hS' : W.cell? ⟨g, 0, none⟩ = some (.slice (some ⟨rb, 0, none⟩) (k + 1) c0) := hS; go_simp⟩) hHeld ?_
    simp only [ly1, ly2, ly3, Act.put, ly5, ly6, ly7]
    refine wpAnyH_take (i := 8) (v := .int .i64 ((k + 1 : Nat) : Int)) rfl (by kernel_rfl) (by kernel_rfl) (by kernel_rfl) (fun _ _ _ h => h) (.inl ⟨by kernel_rfl, fun w _ => by go_simp⟩) hHeld ?_
    simp only [ly1, ly2, ly3, Act.put, ly5, ly6, ly7]
    refine wpAnyH_take (i := 9) (v := .int .i64 (k : Int)) rfl (by kernel_rfl) (by kernel_rfl) (by kernel_rfl) (fun _ _ _ h => h) (.inl ⟨by kernel_rfl, fun w _ => by go_simp⟩) hHeld ?_
    simp only [ly1, ly2, ly3, Act.put, ly5, ly6, ly7]
    refine wpAnyH_take (i := 10) (v := .slice (some ⟨rb, 0, none⟩) k c0) rfl (by kernel_rfl) (by kernel_rfl) (by kernel_rfl) (fun _ _ _ h => h) (.inl ⟨by kernel_rfl, fun w _ => by go_simp⟩) hHeld ?_
    simp only [ly1, ly2, ly3, Act.put, ly5, ly6, ly7]
    refine wpAnyH_ready (rs := [11]) (by kernel_rfl) (by simp) (AllReadyH.cons rfl (fun K hK => ?_) AllReadyH.nil)
    have hK' := hid hK
    clear hK
    rw [if_pos (by kernel_rfl)]
    simp only [ly1, ly2, ly3]
    go_simp
    refine (backward_any (some ⟨rb, 0, none⟩) k c0 _).mono ?_
    rintro e W4 ⟨rfl, hW4⟩
    have hb4 : Below W3.drew.heap.size W3.drew W4 := by rw [hW4]; exact (Below.refl _ _).alloc (Nat.le_refl _) _
    have hs3 : w.heap.size + 1 < W3.heap.size := hH3'.out.lt
    have hgl := hglt.out
    have hrl := hrbw'.out
    have hg4 : W4.cell? ⟨g, 0, none⟩ = some (.slice (some ⟨rb, 0, none⟩) (k + 1) c0) := (hb4.cell (p := ⟨g, 0, none⟩) (by show g < W3.heap.size; omega)).trans hg3
    have hs4 : W4.heap.size = W3.heap.size + 1 := by rw [hW4]; simp
    have hc4 : W4.cell? ⟨W3.heap.size, 0, none⟩ = some (.slice (some ⟨rb, 0, none⟩) k c0) := by rw [hW4]; exact (Holds.new W3.drew 41 #[.slice (some ⟨rb, 0, none⟩) k c0]).cell 0
    have hH4 := hid (hH3'.out.drew.below hb4 hH3'.out.lt)
    have hR4 := hid (hR3.out.drew.below hb4 hR3.out.lt)
    have hbw4 := hid (hbw3.out.drew.trans (hb4.mono (by show w.heap.size ≤ W3.heap.size; omega)))
    have hx4 : ∀ i x, ws[i]? = some x → W4.rangeAt rb (i * 32) (byteCells x) := fun i x hx j v hv => (hb4.cell (p := ⟨rb, i * 32 + j, none⟩) (by show rb < W3.heap.size; omega)).trans (hx3.out i x hx j v hv)
    have hstops := hid (back_stops 8 W4.heap.size (w.heap.size + 1) W3.heap.size (by omega) (by omega) (some ⟨rb, 0, none⟩) k c0 ws hw32'.out hkle hk'.out W4 (Nat.le_refl _) hc4 (fun i x hx => ⟨rb, rfl, by omega, by omega, hx4 i x hx⟩))
    clear hW4 hb4 hc4 hx4 hx3 hbw3 hR3 hH3' hB3'
    refine hK'.out _ _ (by exact hg4) (fun hHeld => ?_)
    clear hK' K
    refine wpAnyH_done (by kernel_rfl) ?_ _
    refine NoPanic.normal ?_
    clear hg4 hHeld hg3
    go_wp2_with fail
    have hs4' := hid hs4
    refine (wpIn_wide (n := 10)).1 ?_
    refine wpIn_rangeFunc_ownH rfl (by omega) (gf := 60) (lb := #[.pointer (some ⟨W3.heap.size, 0, none⟩)]) rfl trivial (enters_of Try.func60 (by kernel_rfl) rfl)
      hstops.out KeepB.trans (KeepB.put (Nat.le_refl _)) (Below.refl _ _) (fun _ => rfl)
      (fun pre W => (Holds W (w.heap.size + 1) 28 (byteCells (rootSo z pre)) ∧ Holds W w.heap.size 28 z32.toList ∧ W4.heap.size ≤ W.heap.size) ∧ Below w.heap.size w W)
      (fun _ _ _ => False)
      (OwnFrom.and (Own.from (fun s A B row hs hg hr => ⟨holds_kept hs.1 hg hr, holds_kept hs.2.1 hg hr, Nat.le_trans hs.2.2 hg.size⟩) _) (ownFrom_below (Nat.le_refl _) (by omega)))
      (fun _ _ _ _ _ hs _ _ => hs)
      ⟨⟨hH4.out, hR4.out, Nat.le_refl _⟩, hbw4.out⟩
      (fun x a' W => ∃ b, a' = { tmps := #[.pointer (some ⟨g, 0, none⟩), undef, .pointer (some ⟨w.heap.size, 0, none⟩), .pointer (some ⟨w.heap.size + 1, 0, none⟩), undef, .pointer (some ⟨b, 0, none⟩), .pointer (some ⟨g, 0, none⟩), .bool false, undef, .pointer (some ⟨g, 0, none⟩), .pointer (some ⟨g, 0, none⟩), .pointer (some ⟨g, 1, none⟩), .int .i64 (xs.length : Int), .bool false, undef, .pointer (some ⟨g, 0, none⟩), .pointer (some ⟨g, 0, none⟩), .pointer (some ⟨g, 0, none⟩), .slice (some ⟨rb, 0, none⟩) (k + 1) c0, .pointer (some ⟨g, 0, none⟩), .pointer (some ⟨g, 0, none⟩), .pointer (some ⟨g, 0, none⟩), .slice (some ⟨rb, 0, none⟩) (k + 1) c0, .int .i64 ((k : Int) + 1), .int .i64 (k : Int), .pointer (some ⟨rb, k * 32, none⟩), .agg (byteCells z).toArray, .pointer (some ⟨g, 0, none⟩), .pointer (some ⟨g, 0, none⟩), .pointer (some ⟨g, 0, none⟩), .slice (some ⟨rb, 0, none⟩) (k + 1) c0, .pointer (some ⟨g, 0, none⟩), .pointer (some ⟨g, 0, none⟩), .pointer (some ⟨g, 0, none⟩), .slice (some ⟨rb, 0, none⟩) (k + 1) c0, .int .i64 ((k : Int) + 1), .int .i64 (k : Int), .slice (some ⟨rb, 0, none⟩) k c0, .func (.func 60) #[] #[.pointer (some ⟨W3.drew.heap.size, 0, none⟩)], .int .i64 (x.1.1 : Int), .agg (byteCells x.1.2).toArray, undef, undef, undef, undef], defers := [] } ∧ W4.heap.size ≤ b ∧ Holds W b 28 (byteCells x.1.2))
      (fun x a' _ A B row hs hg hr => by
        obtain ⟨b, h1, h2, h3⟩ := hs
        exact ⟨b, h1, h2, holds_kept h3 hg (fun r e => (hr r e).2)⟩) ?assign ?body ?done ?stop
    case assign =>
      rintro l pre x W K ⟨⟨hH, hR, hsz⟩, hB⟩ hK
      have hCx := hid (hash_cells x.1.2 x.2)
      gi_wp2_with (first
        | ((with_reducible refine at_slotIn (some 5) ?_); refine wpListIn_run rfl (fun c e => by cases e) rfl (.pointer (some ⟨W.heap.size, 0, none⟩)) (W.alloc (.cells z32 28)) (by kernel_rfl) ?_)
        | ((with_reducible refine at_slotIn none ?_); refine wpListIn_store_mid rfl 28 (.tmp 5) (.tmp 40) rfl W.heap.size 0 (byteCells x.1.2).toArray (by kernel_rfl) (by kernel_rfl) (by exact hCx.out.there W) (by exact hCx.out.size) (by exact hCx.out.one) ?_))
      obtain ⟨W', hW'⟩ : ∃ W', (W.alloc (.cells z32 28)).setCells W.heap.size 0 (byteCells x.1.2) = W' := ⟨_, rfl⟩
      obtain ⟨hH', hb'⟩ := hCx.out.new hW'
      rw [hW']
      have hk := hs4'.out
      refine hK _ _ ⟨hb'.size, fun i o _ hi _ => (hb'.block i (Array.getElem?_eq_some_iff.1 hi).1).trans hi⟩ (KeepB.below hsz hb') ⟨⟨hH.below hb' hH.lt, hR.below hb' hR.lt, Nat.le_trans hsz hb'.size⟩, hB.trans (hb'.mono hB.size)⟩ ⟨W.heap.size, rfl, hsz, hH'⟩
    case body =>
      rintro l pre x a' W hl ⟨r0, hr0⟩ ⟨⟨hH, hR, hsz⟩, hB⟩ ⟨b, rfl, hbl, hHx⟩ hlt
      have hr32 := rootSo_len z hz32'.out pre
      have hj := hid (fun W => mJoin_any x.1.2 (rootSo z pre) x.2 hr32 W)
      have hCn := hid (hash_node x.1.2 (rootSo z pre))
      have hsn := hid (rootSo_snoc z pre x)
      have hi1 : (Try.prog.info? 28).map (·.size) = some (byteCells x.1.2).length := (hash_cells x.1.2 x.2).size'
      have hi2 : (Try.prog.info? 28).map (·.size) = some (byteCells (rootSo z pre)).length := (hash_cells _ hr32).size'
      have hrl : (byteCells (rootSo z pre)).length = 32 := (hash_cells _ hr32).len
      unfold hv at hj
      have hH' := hid hH
      have hR' := hid hR
      have hB' := hid hB
      have hHx' := hid hHx
      generalize nodeH x.1.2 (rootSo z pre) = nd at *
      clear hH hR hB hHx
      gi_wp2_with (first
        | ((with_reducible refine at_slotIn (some 41) ?_); refine wpListIn_load_mid rfl 28 (.tmp 5) rfl b 0 rfl (byteCells x.1.2) _ (by exact h_all hHx'.out) hu rfl (by exact hi1) ?_)
        | ((with_reducible refine at_slotIn (some 42) ?_); refine wpListIn_load_mid rfl 28 (.tmp 3) rfl (w.heap.size + 1) 0 rfl (byteCells (rootSo z pre)) _ (by exact h_all hH'.out) hu rfl (by exact hi2) ?_))
      refine ⟨trivial, (CallsIn.inRound l (callsIn_wide.2 (hj.out W))).mono ?_⟩
      rintro e W5 ⟨rfl, hb5⟩
      have hH5 := hid (hH'.out.below hb5 hH'.out.lt)
      have hR5 := hid (hR'.out.below hb5 hR'.out.lt)
      gi_wp2_with ((with_reducible refine at_slotIn none ?_); refine wpListIn_store_mid rfl 28 (.tmp 3) (.tmp 43) rfl (w.heap.size + 1) 0 (byteCells nd).toArray rfl rfl (by exact hCn.out.there' hH5.out hrl) (by exact hCn.out.size) (by exact hCn.out.one) ?_)
      obtain ⟨W6, hW6⟩ : ∃ W6, W5.setCells (w.heap.size + 1) 0 (byteCells nd) = W6 := ⟨_, rfl⟩
      obtain ⟨hH6, hB6⟩ := hCn.out.set (w := w) hH5.out hrl hW6 (hB'.out.trans (hb5.mono hB'.out.size)) (by omega)
      have hlq := hH'.out.lt
      have hR6 : Holds W6 w.heap.size 28 z32.toList := by rw [← hW6]; exact hR5.out.fars _ _ _ (by omega)
      have hbq := below_setCells (Below.refl (w.heap.size + 1) W5) (w.heap.size + 1) 0 (byteCells nd) (Nat.le_refl _)
      have hg : W.grownBy W6 (some (w.heap.size + 1)) := by
        rw [← hW6]
        exact ⟨hbq.os.trans hb5.os, hbq.tape.trans hb5.tape, hbq.output.trans hb5.output, Nat.le_trans hb5.size hbq.size, fun k hk hne => (cells_far _ _ _ _ _ (fun e => hne (by rw [e]))).trans (hb5.block k hk)⟩
      rw [hW6]
      have hk := hs4'.out
      refine ⟨KeepsFrom.of_grownBy hg (fun j e => by have := Option.some.inj e; omega), KeepB.grown hsz hg, ⟨?_, hR6, Nat.le_trans hsz hg.size⟩, hB6⟩
      rw [hsn.out]
      exact hH6
    case done =>
      rintro D ys W hD hys ⟨⟨hH, hR, hsz⟩, hB⟩ hK
      rw [rootSo_all z ws ys hys, ← hroot'.out] at hH
      have hCr := hid (hash_root xs)
      have hi1 := hCr.out.size'
      have hhlt := hR.lt
      have hKlt := (Array.getElem?_eq_some_iff.1 hK).1
      have hk := hs4'.out
      have hH' := hid hH
      have hR' := hid hR
      have hB' := hid hB
      have hK' := hid hK
      obtain ⟨cs, hcs⟩ : ∃ cs, byteCells (rootH xs) = cs := ⟨_, rfl⟩
      rw [hcs] at hCr hi1 hH'
      have hcs' := hid hcs
      clear hH hR hB hK hys hcs
      go_wp2_with (first
        | ((with_reducible refine at_slot (some 44) ?_); refine wpList_load_mid rfl 28 (.tmp 3) rfl (w.heap.size + 1) 0 rfl cs _ (by exact h_all hH'.out) hu rfl (by exact hi1) ?_)
        | ((with_reducible refine at_slot none ?_); refine wpList_store_mid rfl 28 (.tmp 2) (.tmp 44) rfl w.heap.size 0 cs.toArray rfl rfl (by exact hCr.out.there' hR'.out rfl) (by exact hCr.out.size) (by exact hCr.out.one) ?_; generalize hW6 : World.setCells _ _ _ _ = W6
           have hend := hCr.out.set (w := w) hR'.out rfl hW6 hB'.out (Nat.le_refl _)
           have hK6 : W6.heap[D]? = some (.deferred (some [])) := by rw [← hW6]; exact (cells_far _ _ _ _ _ (by omega)).trans hK'.out
           have hH6 := hid hend.1
           have hB6 := hid hend.2
           have hK6' := hid hK6
           clear hW6 hend hK6))
      refine ⟨by simp, .inl ⟨_, _, rfl, run_takeDeferred hK6'.out, ?_⟩⟩
      have hrp : (W6.putObj D (.deferred none)).heap[w.heap.size]? = some (.cells cs.toArray 28 (0, 0)) := (World.putObj_heap_other (by omega)).trans hH6.out
      exact ⟨_, results_cell_row rfl _ _ w.heap.size 28 _ (0, 0) _ rfl hrp Try.underlying28 rfl (by exact hCr.out.size),
        by rw [hcs'.out], hB6.out.trans (belowK_b (w := w) (Nat.le_refl _) W6 D _ _ (by omega) hK6'.out rfl rfl)⟩
    case stop =>
      rintro D c pre W _ _ h _
      exact h.elim

end Go.Proofs.Ytenfhmpjhbpkpaa
namespace Go.Proofs.Ytenfhmpjhbpkpaa
open Go.RowKit
open Go.Lib (strCells strCells_length strCells_oneCell)
attribute [local irreducible] Sha.compress Sha.blocks Sha.sha Sha.pad

/-- What lies where while leaves are appended. -/
structure LogAt (w wr : World) (g : Nat) (xs : List ByteArray) (r : Option Nat) : Prop where
  t : TreeAt wr g xs r
  lg : w.heap.size < g
  lr : ∀ k, r = some k → w.heap.size < k
  h : Holds wr w.heap.size 28 z32.toList
  b : Below w.heap.size w wr

theorem LogAt.next {w wr w' : World} {g : Nat} {xs ys : List ByteArray} {r r' : Option Nat} (h : LogAt w wr g xs r) (ht : TreeAt w' g ys r') (hts : Turns wr w' g r) (hf : Fresh wr r r') : LogAt w w' g ys r' := by
  have h1 := h.lg
  have h2 := h.h.lt
  refine ⟨ht, h1, fun k hk => ?_, hts.holds h.h (by omega) (fun e => by have := h.lr _ e.symm; omega), h.b.trans (hts.below (by omega) (fun k hk => by have := h.lr k hk; omega) h.b.size)⟩
  rcases hf with e | ⟨q, e, hq⟩
  · exact h.lr k (by rw [← e, hk])
  · rw [e] at hk
    obtain rfl := Option.some.inj hk
    omega

set_option maxRecDepth 100000 in
set_option maxHeartbeats 1000000 in
theorem mRoot_any (A : Option Addr) (n c : Nat) (xs : List ByteArray) (w : World) (hX : Texts w w.heap.size A n xs) (hn : n ≤ 10000000000000) (hs : ∀ s ∈ xs, s.size ≤ 140737488351232) :
    Calls Try.prog 18 #[.slice A n c] w fun e w' => e = .returned (hv (rootH xs)) ∧ Below w.heap.size w w' := by
  have hlen := hX.len
  have hX' := hid hX
  have hs' := hid hs
  clear hX hs
  unfold hv
  go_enter Try.func18, Try.ntmps18
  go_wp2_with ((with_reducible refine at_slot (some 2) ?_); refine wpList_run rfl (.pointer (some ⟨w.heap.size, 0, none⟩)) (w.alloc (.cells z32 28)) (by kernel_rfl) ?_)
  refine (mNew_any _).mono ?_
  rintro e W2 ⟨rfl, hT2, hb2⟩
  have hsz : (w.alloc (.cells z32 28)).heap.size = w.heap.size + 1 := by simp
  rw [hsz] at hT2
  have hL2 := hid (show LogAt w W2 (w.heap.size + 1) [] none from ⟨hT2, by omega, (fun k e => by cases e), (Holds.new w 28 z32).below hb2 (by simp), ((Below.refl _ _).alloc (Nat.le_refl _) _).trans (hb2.mono (by simp))⟩)
  clear hT2 hb2
  go_wp2_with fail
  generalize hg : w.heap.size + 1 = g at *
  have hsz' := hid hsz
  clear hsz
  go_loopw [9] (fun i wr => ∃ (k : Nat) (r : Option Nat), k ≤ n ∧ i = .int .i64 (k : Int) ∧ LogAt w wr g (xs.take k) r) (fun i _ => n - (intOf i).toNat)
  case atStart => exact ⟨0, none, Nat.zero_le _, rfl, hL2.out⟩
  case round =>
    obtain ⟨k, r, hk, rfl, hL⟩ := hrel
    have hL' := hid hL
    clear hL hL2
    by_cases hlt : k < n
    · obtain ⟨p, rfl, hB, x, hxm, hx, hc⟩ := (hX'.out.below hL'.out.b).get hlt
      have hxs := hs'.out x hxm
      have hlt' : (k : Int) < (n : Int) := by omega
      have htk : xs.take (k + 1) = xs.take k ++ [x] := by rw [List.take_add_one, hx]; rfl
      have ha := hid (fun W (h : LogAt w W g (xs.take k) r) => (mAppend_any g (xs.take k) r x W hxs (by rw [List.length_take]; omega) h.t).mono (R' := fun e w' => e = .returned (.tuple #[]) ∧ ∃ r', LogAt w w' g (xs.take (k + 1)) r') fun _ _ ⟨he, r', h1, h2, h3⟩ => ⟨he, r', by rw [htk]; exact h.next h1 h2 h3⟩)
      clear htk hx hxm
      go_wp2_with fail
      refine (ha.out _ hL'.out).mono ?_
      rintro e W3 ⟨rfl, r', hL3⟩
      have hL3' := hid hL3
      clear hL3
      go_wp2_with fail
      go_roundw
      case rel => exact ⟨k + 1, r', by omega, by go_num, hL3'.out⟩
      case measure => simp [intOf]; omega
    · obtain rfl : k = n := by omega
      have e : xs.take k = xs := List.take_of_length_le (by omega)
      rw [e] at hL'
      have hno : ¬ (k : Int) < (k : Int) := by omega
      have hr := hid (fun W (h : TreeAt W g xs r) => tRoot_any g xs r W h)
      have hC := hid (hash_root xs)
      unfold hv at hr
      obtain ⟨cs, hcs⟩ : ∃ cs, byteCells (rootH xs) = cs := ⟨_, rfl⟩
      rw [hcs] at hr hC
      have hcs' := hid hcs
      clear hcs e
      go_wp2_with fail
      refine (hr.out _ hL'.out.t).mono ?_
      rintro e W5 ⟨rfl, hb5⟩
      have hH5 := hid (hL'.out.h.below hb5 hL'.out.h.lt)
      have hB5 := hid (hL'.out.b.trans (hb5.mono hL'.out.b.size))
      clear hb5
      rename_i hK1
      refine hK1 _ _ ?_
      clear hK1
      refine wpList_store_mid rfl 28 (.tmp 2) (.tmp 18) rfl w.heap.size 0 cs.toArray rfl rfl (by exact hC.out.there' hH5.out rfl) (by exact hC.out.size) (by exact hC.out.one) ?_
      generalize hW3 : World.setCells _ _ _ _ = W3
      obtain ⟨hH3, hB3⟩ := hC.out.set hH5.out rfl hW3 hB5.out (Nat.le_refl _)
      have hH3' := hid hH3
      have hB3' := hid hB3
      clear hW3 hH3 hB3
      go_wp2_with fail
      exact bodyPost_ret (results_cell_row rfl _ _ w.heap.size 28 _ (0, 0) _ rfl hH3'.out Try.underlying28 rfl (by exact hC.out.size)) rfl ⟨by rw [hcs'.out], hB3'.out⟩

end Go.Proofs.Ytenfhmpjhbpkpaa
namespace Go.Proofs.Ytenfhmpjhbpkpaa
open Go.RowKit
open Go.Lib (strCells strCells_length strCells_oneCell)
attribute [local irreducible] Sha.compress Sha.blocks Sha.sha Sha.pad

set_option maxRecDepth 100000 in
set_option maxHeartbeats 1000000 in
theorem rRoot_any : ∀ (n : Nat) (A : Option Addr) (c : Nat) (xs : List ByteArray) (B : Nat) (w : World), Texts w B A n xs → B ≤ w.heap.size → n ≤ c → n ≤ 10000000000000 → (∀ s ∈ xs, s.size ≤ 140737488351232) →
    Calls Try.prog 16 #[.slice A n c] w fun e w' => e = .returned (hv (rootH xs)) ∧ Below w.heap.size w w' := by
  intro n
  induction n using Nat.strongRecOn with
  | ind n ih =>
  intro A c xs B w hX hBw hnc hn hs
  have hlen := hX.len
  have hC := hid (hash_root xs)
  unfold hv
  obtain ⟨cs, hcs⟩ : ∃ cs, byteCells (rootH xs) = cs := ⟨_, rfl⟩
  rw [hcs] at hC
  by_cases h0 : n = 0
  · obtain rfl : xs = [] := List.length_eq_zero_iff.1 (by omega)
    subst h0
    have hs := hid (fun W => rsha_any ⟨#[]⟩ W (by decide))
    have he : rootH [] = Sha.sha [] := rfl
    unfold hashV at hs
    have he2 : ((⟨#[]⟩ : ByteArray).data.toList) = [] := rfl
    rw [he2, ← he, hcs] at hs
    have hcs' := hid hcs
    clear he he2 hcs ih
    go_enter Try.func16, Try.ntmps16
    go_wp2_with ((with_reducible refine at_slot (some 2) ?_); refine wpList_run rfl (.pointer (some ⟨w.heap.size, 0, none⟩)) (w.alloc (.cells z32 28)) (by kernel_rfl) ?_)
    refine (hs.out _).mono ?_
    rintro e W2 ⟨rfl, hb2⟩
    have hH2 := hid ((Holds.new w 28 z32).below hb2 (by simp))
    have hB2 := hid (below_up hb2 ((Below.refl w.heap.size w).alloc (Nat.le_refl _) _))
    clear hb2
    rename_i hK1
    refine hK1 _ _ ?_
    clear hK1
    refine wpList_store_mid rfl 28 (.tmp 2) (.tmp 8) rfl w.heap.size 0 cs.toArray rfl rfl (by exact hC.out.there' hH2.out rfl) (by exact hC.out.size) (by exact hC.out.one) ?_
    generalize hW3 : World.setCells _ _ _ _ = W3
    obtain ⟨hH3, hB3⟩ := hC.out.set hH2.out rfl hW3 hB2.out (Nat.le_refl _)
    have hH3' := hid hH3
    have hB3' := hid hB3
    clear hW3 hH3 hB3
    go_wp2_with fail
    exact bodyPost_ret (results_cell_row rfl _ _ w.heap.size 28 _ (0, 0) _ rfl hH3'.out Try.underlying28 rfl (by exact hC.out.size)) rfl ⟨by rw [hcs'.out], hB3'.out⟩
  · by_cases h1 : n = 1
    · subst h1
      obtain ⟨x, rfl⟩ : ∃ x, xs = [x] := List.length_eq_one_iff.1 hlen
      obtain ⟨p, rfl, hB, y, hym, hy, hc⟩ := (hX.alloc hBw (.cells z32 28)).get (show 0 < 1 by decide)
      obtain rfl : y = x := by simpa using hym
      have hc0 : (w.alloc (.cells z32 28)).cell? p = some (.string y) := by
        have e : p.add 0 = p := by unfold Addr.add; simp
        rw [e] at hc
        exact hc
      have hl := hid (fun W => rLeaf_any y W (hs y (by simp)))
      unfold hv at hl
      rw [rootH_one] at hcs
      rw [hcs] at hl
      have hcs' := hid hcs
      clear hcs ih hs hX
      go_enter Try.func16, Try.ntmps16
      go_wp2_with ((with_reducible refine at_slot (some 2) ?_); refine wpList_run rfl (.pointer (some ⟨w.heap.size, 0, none⟩)) (w.alloc (.cells z32 28)) (by kernel_rfl) ?_)
      refine (hl.out _).mono ?_
      rintro e W2 ⟨rfl, hb2⟩
      have hH2 := hid ((Holds.new w 28 z32).below hb2 (by simp))
      have hB2 := hid (below_up hb2 ((Below.refl w.heap.size w).alloc (Nat.le_refl _) _))
      clear hb2
      rename_i hK1
      refine hK1 _ _ ?_
      clear hK1
      refine wpList_store_mid rfl 28 (.tmp 2) (.tmp 14) rfl w.heap.size 0 cs.toArray rfl rfl (by exact hC.out.there' hH2.out rfl) (by exact hC.out.size) (by exact hC.out.one) ?_
      generalize hW3 : World.setCells _ _ _ _ = W3
      obtain ⟨hH3, hB3⟩ := hC.out.set hH2.out rfl hW3 hB2.out (Nat.le_refl _)
      have hH3' := hid hH3
      have hB3' := hid hB3
      clear hW3 hH3 hB3
      go_wp2_with fail
      exact bodyPost_ret (results_cell_row rfl _ _ w.heap.size 28 _ (0, 0) _ rfl hH3'.out Try.underlying28 rfl (by exact hC.out.size)) rfl ⟨by rw [rootH_one, hcs'.out], hB3'.out⟩
    · obtain ⟨p, rfl⟩ : ∃ p, A = some p := by
        obtain ⟨p, e, -⟩ := hX.get (show 0 < n by omega)
        exact ⟨p, e⟩
      obtain ⟨k1, k2, -, -⟩ := Mth.cut_spec n (by omega)
      have htwo := rootH_two xs (by omega)
      rw [hlen] at htwo
      obtain ⟨k, hk⟩ : ∃ k, Mth.cut n = k := ⟨_, rfl⟩
      have hcut := hid (fun W => rCut_any n (by omega) (by omega) W)
      rw [hk] at k1 k2 htwo hcut
      have hXa := hid (fun W (h : Below w.heap.size w W) => (hX.below (h.mono hBw)).take (k := k) (by omega))
      have hXb := hid (fun W (h : Below w.heap.size w W) => (hX.below (h.mono hBw)).drop (k := k) (by omega))
      have hra := hid (fun W (h : Below w.heap.size w W) => ih k k2 (some p) c (xs.take k) B W (hXa.out W h) (Nat.le_trans hBw h.size) (by omega) (by omega) (fun s hm => hs s (List.mem_of_mem_take hm)))
      have hrb := hid (fun W (h : Below w.heap.size w W) => ih (n - k) (by omega) (some (p.add k)) (c - k) (xs.drop k) B W (hXb.out W h) (Nat.le_trans hBw h.size) (by omega) (by omega) (fun s hm => hs s (List.mem_of_mem_drop hm)))
      have hro := hid (fun W => rOver_any (rootH (xs.take k)) (rootH (xs.drop k)) (rootH_len _) (rootH_len _) W)
      rw [← htwo] at hro
      unfold hv at hra hrb hro
      rw [hcs] at hro
      have hcs' := hid hcs
      clear hcs ih hs hX hXa hXb htwo hk
      generalize byteCells (rootH (xs.take k)) = ca at *
      generalize byteCells (rootH (xs.drop k)) = cb at *
      have hkn : (k : Int) ≤ (c : Int) := by omega
      have hkn2 : (k : Int) ≤ (n : Int) := by omega
      have hnc2 : (n : Int) ≤ (c : Int) := by omega
      have hk0 : (0 : Int) ≤ (k : Int) := by omega
      have hto : (k : Int).toNat = k := by omega
      have hn1 : ¬ (n : Int) = 0 := by omega
      have hck : ¬ c = k := by omega
      have hn2 : ¬ (n : Int) = 1 := by omega
      have hb1 := hid ((Below.refl w.heap.size w).alloc (Nat.le_refl _) (.cells z32 28))
      go_enter Try.func16, Try.ntmps16
      go_wp2_with ((with_reducible refine at_slot (some 2) ?_); refine wpList_run rfl (.pointer (some ⟨w.heap.size, 0, none⟩)) (w.alloc (.cells z32 28)) (by kernel_rfl) ?_)
      refine (hcut.out _).mono ?_
      rintro e W2 ⟨rfl, hb2⟩
      have hH2 := hid ((Holds.new w 28 z32).below hb2 (by simp))
      have hB2 := hid (below_up hb2 hb1.out)
      clear hb2
      go_wp2_with fail
      refine wp_region_held_drew (S := fun _ => True) (by kernel_rfl) (by exact True.intro) (fun hHeld => ?_)
      refine wpAnyH_take (i := 0) (v := .slice (some p) n c) rfl (by kernel_rfl) (by kernel_rfl) (by kernel_rfl) (fun _ _ _ h => h) (yieldsIf_move _ rfl rfl rfl) hHeld ?_
      simp only [ly1, ly2, ly3, Act.put, ly5, ly6, ly7]
      refine wpAnyH_take (i := 1) (v := .int .i64 (k : Int)) rfl (by kernel_rfl) (by kernel_rfl) (by kernel_rfl) (fun _ _ _ h => h) (yieldsIf_move _ rfl rfl rfl) hHeld ?_
      simp only [ly1, ly2, ly3, Act.put, ly5, ly6, ly7]
      refine wpAnyH_take (i := 2) (v := .slice (some p) k c) rfl (by kernel_rfl) (by kernel_rfl) (by kernel_rfl) (fun _ _ _ h => h) (.inl ⟨by kernel_rfl, fun w _ => by go_simp⟩) hHeld ?_
      simp only [ly1, ly2, ly3, Act.put, ly5, ly6, ly7]
      refine wpAnyH_take (i := 4) (v := .slice (some p) n c) rfl (by kernel_rfl) (by kernel_rfl) (by kernel_rfl) (fun _ _ _ h => h) (yieldsIf_move _ rfl rfl rfl) hHeld ?_
      simp only [ly1, ly2, ly3, Act.put, ly5, ly6, ly7]
      refine wpAnyH_take (i := 5) (v := .int .i64 (k : Int)) rfl (by kernel_rfl) (by kernel_rfl) (by kernel_rfl) (fun _ _ _ h => h) (yieldsIf_move _ rfl rfl rfl) hHeld ?_
      simp only [ly1, ly2, ly3, Act.put, ly5, ly6, ly7]
      refine wpAnyH_take (i := 6) (v := .slice (some (p.add k)) (n - k) (c - k)) rfl (by kernel_rfl) (by kernel_rfl) (by kernel_rfl) (fun _ _ _ h => h) (.inl ⟨by kernel_rfl, fun w _ => by go_simp⟩) hHeld ?_
      simp only [ly1, ly2, ly3, Act.put, ly5, ly6, ly7]
      refine wpAnyH_ready (rs := [3]) (by kernel_rfl) (by simp) (AllReadyH.cons rfl (fun K hK => ?_) AllReadyH.nil)
      have hK' := hid hK
      clear hK
      rw [if_pos (by kernel_rfl)]
      simp only [ly1, ly2, ly3]
      go_simp
      refine (hra.out _ hB2.out.drew).mono ?_
      rintro e W4 ⟨rfl, hb4⟩
      have hH4 := hid (hH2.out.drew.below hb4 hH2.out.drew.lt)
      have hB4 := hid (below_up hb4 hB2.out.drew)
      clear hb4
      refine hK'.out _ _ (by exact True.intro) (fun hHeld => ?_)
      clear hK' K
      refine wpAnyH_ready (rs := [7]) (by kernel_rfl) (by simp) (AllReadyH.cons rfl (fun K hK => ?_) AllReadyH.nil)
      have hK' := hid hK
      clear hK
      rw [if_pos (by kernel_rfl)]
      simp only [ly1, ly2, ly3]
      go_simp
      refine (hrb.out _ hB4.out).mono ?_
      rintro e W5 ⟨rfl, hb5⟩
      have hH5 := hid (hH4.out.below hb5 hH4.out.lt)
      have hB5 := hid (below_up hb5 hB4.out)
      clear hb5
      refine hK'.out _ _ (by exact True.intro) (fun hHeld => ?_)
      clear hK' K
      refine wpAnyH_ready (rs := [8]) (by kernel_rfl) (by simp) (AllReadyH.cons rfl (fun K hK => ?_) AllReadyH.nil)
      have hK' := hid hK
      clear hK
      rw [if_pos (by kernel_rfl)]
      simp only [ly1, ly2, ly3]
      go_simp
      refine (hro.out _).mono ?_
      rintro e W6 ⟨rfl, hb6⟩
      have hH6 := hid (hH5.out.below hb6 hH5.out.lt)
      have hB6 := hid (below_up hb6 hB5.out)
      clear hb6
      refine hK'.out _ _ (by exact True.intro) (fun hHeld => ?_)
      clear hK' K
      refine wpAnyH_ready (rs := [9]) (by kernel_rfl) (by simp) (AllReadyH.cons rfl (fun K hK => ?_) AllReadyH.nil)
      have hK' := hid hK
      clear hK
      rw [if_pos (by kernel_rfl)]
      simp only [ly1, ly2, ly3]
      refine wp_store_mid _ _ _ rfl w.heap.size 0 cs.toArray rfl rfl (by exact hC.out.there' hH6.out rfl) (by exact hC.out.size) (by exact hC.out.one) ?_
      generalize hW3 : World.setCells _ _ _ _ = W3
      obtain ⟨hH3, hB3⟩ := hC.out.set hH6.out rfl hW3 hB6.out (Nat.le_refl _)
      have hH3' := hid hH3
      have hB3' := hid hB3
      clear hW3 hH3 hB3
      refine hK'.out _ _ (by exact True.intro) (fun hHeld => ?_)
      clear hK' K
      refine wpAnyH_done (by kernel_rfl) ?_ _
      go_wp2_with fail
      exact bodyPost_ret (results_cell_row rfl _ _ w.heap.size 28 _ (0, 0) _ rfl hH3'.out Try.underlying28 rfl (by exact hC.out.size)) rfl ⟨by rw [hcs'.out], hB3'.out⟩

end Go.Proofs.Ytenfhmpjhbpkpaa
