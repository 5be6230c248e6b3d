/- Layer 7, the reference's side: NewDisk. -/
import Derived.Test.YtbclmkpigdeilaaDkV
import Derived.Deep.AppendLies
namespace Go.Proofs.Ytbclmkpigdeilaa
open Go.RowKit
open Go.Lib (strCells strCells_length strCells_oneCell)

theorem Try.infoBool : (Try.prog.info? 4).map (fun i => (i.zero, i.size, i.bytes)) = some (some (.bool false), 1, 1) := by kernel_rfl
theorem Try.infoText : (Try.prog.info? 9).map (fun i => (i.zero, i.size, i.bytes)) = some (some (.string ⟨#[]⟩), 1, 16) := by kernel_rfl
theorem made_bools (n : Nat) : madeCells #[.bool false] (n * 1) = (bools (List.replicate n false)).toArray := by
  apply Array.toList_inj.1
  rw [Nat.mul_one, toList_madeCells_one]
  unfold bools
  rw [List.map_replicate]
section
variable {ops : Array Oper} {o : Oper} {a : Act} {w : World} {Q : Exit → Act → World → Prop}
/-- 'make([]bool, n)'. -/
theorem wpList_make_bools {rest : List Oper} (hgd : o.guard = none) (l c : Operand) (hop : o.op = Op.makeSlice 116 l c) (L : Int) (n : Nat) (hl : a.eval l = .int .i64 L) (hc : a.eval c = .int .i64 L) (hL : L = (n : Int)) (hn : n ≤ 1000000000)
    (h : wpList Try.prog ops Q rest (a.put o.dst (.slice (some ⟨w.heap.size, 0, none⟩) n n)) (w.alloc (.cells (bools (List.replicate n false)).toArray 4))) : wpList Try.prog ops Q (o :: rest) a w := by
  subst hL
  obtain ⟨i, hi, hz, hsize, hby⟩ := info_parts Try.infoBool
  have hrun := run_make (P := Try.prog) w 116 4 i (.bool false) Try.underlying116 hi hz .i64 .i64 (n : Int) (n : Int) (by omega) (by omega) (by rw [hby]; omega) (by omega)
  have hzc : (Value.bool false).cells = #[.bool false] := rfl
  rw [hzc, Int.toNat_natCast, hsize, made_bools] at hrun
  refine wpList_run hgd _ _ ?_ h
  unfold execOp
  simp only [hop, hl, hc, Sem.run_bind, hrun, Result.andThen_ok, Sem.run_pure]
end

theorem new_at7 {W W' : World} {cs : Array Value} {t : TypeId} (h : W.alloc (.cells cs t) = W') : Holds W' W.heap.size t cs.toList ∧ Below W.heap.size W W' := by
  subst h
  exact ⟨Holds.new W t cs, (Below.refl _ _).alloc (Nat.le_refl _) _⟩
theorem row_less {w : World} {B B' n size : Nat} {e : TypeId} {v : Value} {xs : List Value} (h : w.ownsRow B e size v n xs) (hB : B' ≤ B) : w.ownsRow B' e size v n xs := by
  refine ⟨h.1, ?_⟩
  rcases h.2 with hn | ⟨q, cap, cur, hv, hb', rest⟩
  · exact .inl hn
  · exact .inr ⟨q, cap, cur, hv, Nat.le_trans hB hb', rest⟩
/-- The reference's disk while it is made: i sectors in one list, j in the other. -/
structure RNew (w : World) (x g3 n i j : Nat) (A1 : Option Addr) (c1 : Nat) (A2 : Option Addr) (c2 : Nat) (z : ByteArray) : Prop where
  own : Holds w x 118 [.slice A1 i c1, .slice A2 j c2, .slice (some ⟨g3, 0, none⟩) n n]
  r1 : w.ownsRow (x + 1) 9 1 (.slice A1 i c1) i (strs (List.replicate i z))
  r2 : w.ownsRow (x + 1) 9 1 (.slice A2 j c2) j (strs (List.replicate j z))
  ap : ∀ k, (Value.slice A1 i c1).ownBlock = some k → (Value.slice A2 j c2).ownBlock ≠ some k
  fl : Holds w g3 4 (bools (List.replicate n false))
  g3x : g3 < x
section
variable {w W : World} {x g3 n i j : Nat} {A1 A2 : Option Addr} {c1 c2 : Nat} {z : ByteArray}
theorem RNew.on (h : RNew w x g3 n i j A1 c1 A2 c2 z) (hb : Below w.heap.size w W) : RNew W x g3 n i j A1 c1 A2 c2 z :=
  ⟨h.own.below hb h.own.lt, rows_on h.r1 hb, rows_on h.r2 hb, h.ap, h.fl.below hb h.fl.lt, h.g3x⟩
theorem reps (z : ByteArray) (i : Nat) : strs (List.replicate i z) ++ [.string z] = strs (List.replicate (i + 1) z) := by
  rw [List.replicate_succ']
  unfold strs
  rw [List.map_append]
  rfl
theorem RNew.x1 (h : RNew w x g3 n i j A1 c1 A2 c2 z) : some x ≠ (Value.slice A1 i c1).ownBlock := fun e => by have := (h.r1.lt x e.symm).1; omega
theorem RNew.x2 (h : RNew w x g3 n i j A1 c1 A2 c2 z) : some x ≠ (Value.slice A2 j c2).ownBlock := fun e => by have := (h.r2.lt x e.symm).1; omega
theorem RNew.push1 (h : RNew w x g3 n i j A1 c1 A2 c2 z) {W : World} {g cap : Nat} (ho : W.ownsRow (x + 1) 9 1 (.slice (some ⟨g, 0, none⟩) (i + 1) cap) (i + 1) (strs (List.replicate i z) ++ [.string z])) (hg : w.grownBy W (Value.slice A1 i c1).ownBlock)
    (hl : (Value.slice A1 i c1).ownBlock = some g ∨ g = w.heap.size) : Holds W x 118 [.slice A1 i c1, .slice A2 j c2, .slice (some ⟨g3, 0, none⟩) n n] ∧ RNew (W.setCell ⟨x, 0, none⟩ (.slice (some ⟨g, 0, none⟩) (i + 1) cap)) x g3 n (i + 1) j (some ⟨g, 0, none⟩) cap A2 c2 z := by
  have hx := h.own.grown hg h.x1
  have hgx := (ho.lt g rfl).1
  refine ⟨hx, ?_, ?_, ?_, ?_, ?_, h.g3x⟩
  · exact hx.set 0 _
  · rw [reps] at ho
    exact rows_of_blocks ho (fun k e => heap_setCell_other _ _ _ _ (by have e2 : g = k := Option.some.inj e; show k ≠ x; omega))
  · refine rows_of_blocks (rows_of_blocks h.r2 (w' := W) (fun k e => hg.block k (h.r2.lt k e).2 (fun e2 => h.ap k e2.symm e))) (fun k e => heap_setCell_other _ _ _ _ (by have := (h.r2.lt k e).1; show k ≠ x; omega))
  · intro k e
    obtain rfl : g = k := Option.some.inj e
    rcases hl with hl | hl
    · exact h.ap _ hl
    · intro e2
      have := (h.r2.lt _ e2).2
      omega
  · exact (h.fl.grown hg (fun e => by have := (h.r1.lt g3 e.symm).1; have := h.g3x; omega)).far _ (by show g3 ≠ x; have := h.g3x; omega) _
theorem RNew.push2 (h : RNew w x g3 n i j A1 c1 A2 c2 z) {W : World} {g cap : Nat} (ho : W.ownsRow (x + 1) 9 1 (.slice (some ⟨g, 0, none⟩) (j + 1) cap) (j + 1) (strs (List.replicate j z) ++ [.string z])) (hg : w.grownBy W (Value.slice A2 j c2).ownBlock)
    (hl : (Value.slice A2 j c2).ownBlock = some g ∨ g = w.heap.size) : Holds W x 118 [.slice A1 i c1, .slice A2 j c2, .slice (some ⟨g3, 0, none⟩) n n] ∧ RNew (W.setCell ⟨x, 1, none⟩ (.slice (some ⟨g, 0, none⟩) (j + 1) cap)) x g3 n i (j + 1) A1 c1 (some ⟨g, 0, none⟩) cap z := by
  have hx := h.own.grown hg h.x2
  have hgx := (ho.lt g rfl).1
  refine ⟨hx, ?_, ?_, ?_, ?_, ?_, h.g3x⟩
  · exact hx.set 1 _
  · refine rows_of_blocks (rows_of_blocks h.r1 (w' := W) (fun k e => hg.block k (h.r1.lt k e).2 (fun e2 => h.ap k e e2.symm))) (fun k e => heap_setCell_other _ _ _ _ (by have := (h.r1.lt k e).1; show k ≠ x; omega))
  · rw [reps] at ho
    exact rows_of_blocks ho (fun k e => heap_setCell_other _ _ _ _ (by have e2 : g = k := Option.some.inj e; show k ≠ x; omega))
  · intro k e e2
    obtain rfl : g = k := Option.some.inj e2
    rcases hl with hl | hl
    · exact h.ap _ e hl
    · have := (h.r1.lt _ e).2
      omega
  · exact (h.fl.grown hg (fun e => by have := (h.r2.lt g3 e.symm).1; have := h.g3x; omega)).far _ (by show g3 ≠ x; have := h.g3x; omega) _
end
set_option maxRecDepth 100000 in
theorem rdNew_no (n : Int) (h : ¬ (1 ≤ n ∧ n ≤ 256)) (w : World) : Calls Try.prog 30 #[.int .i64 n] w fun e w' => e = .returned (.tuple #[.pointer none, .int .i64 700]) ∧ w' = w := by
  by_cases h1 : n < 1
  · go_enter Try.func30, Try.ntmps30
    go_wp2
    go_ret2
    exact ⟨rfl, rfl⟩
  · have h2 : 256 < n := by omega
    go_enter Try.func30, Try.ntmps30
    go_wp2
    go_ret2
    exact ⟨rfl, rfl⟩
set_option maxRecDepth 100000 in
set_option maxHeartbeats 2000000 in
theorem rdNew_yes (n : Nat) (h1 : 1 ≤ n) (h2 : n ≤ 256) (w : World) : Calls Try.prog 30 #[.int .i64 (n : Int)] w fun e w' => ∃ g1 c1 g2 c2, e = .returned (.tuple #[.pointer (some ⟨w.heap.size + 1, 0, none⟩), .int .i64 0]) ∧ RDisk w' w.heap.size (w.heap.size + 1) g1 c1 g2 c2 w.heap.size n (Dk.new n) ∧ Below w.heap.size w w' := by
  have h3 : ¬ (n : Int) < 1 := by omega
  have h4 : ¬ (256 : Int) < (n : Int) := by omega
  obtain ⟨z, hz⟩ : ∃ z, zeroS 64 = z := ⟨_, rfl⟩
  have hz64 := hid (show z.size = 64 from by rw [← hz]; exact zeroS_size 64)
  have hzc := hid (show z64.toList = strCells z from by rw [← hz]; exact z64_list)
  have hz' := hid hz
  obtain ⟨it, hit, hitz, hits, hitb⟩ := info_parts Try.infoText
  have hit' := hid hit
  have hitz' := hid hitz
  have hits' := hid hits
  have hitb' := hid hitb
  clear hz hit hitz hits hitb
  obtain ⟨bc, hbc⟩ : ∃ cs, (bools (List.replicate n false)).toArray = cs := ⟨_, rfl⟩
  obtain ⟨W0, hW0⟩ : ∃ W0, (w.alloc (.cells bc 4)).alloc (.cells #[.slice none 0 0, .slice none 0 0, .slice (some ⟨w.heap.size, 0, none⟩) n n] 118) = W0 := ⟨_, rfl⟩
  have hs1 : (w.alloc (.cells bc 4)).heap.size = w.heap.size + 1 := by simp
  have hA0 := hid (show RNew W0 (w.heap.size + 1) w.heap.size n 0 0 none 0 none 0 z from by
    have hF := (Holds.new w 4 bc).alloc (.cells #[.slice none 0 0, .slice none 0 0, .slice (some ⟨w.heap.size, 0, none⟩) n n] 118)
    have hX := Holds.new (w.alloc (.cells bc 4)) 118 #[.slice none 0 0, .slice none 0 0, .slice (some ⟨w.heap.size, 0, none⟩) n n]
    rw [hs1] at hX
    rw [hW0] at hF hX
    rw [← hbc] at hF
    exact ⟨hX, ⟨rfl, .inl ⟨rfl, rfl⟩⟩, ⟨rfl, .inl ⟨rfl, rfl⟩⟩, (fun k e => by cases e), hF, Nat.lt_succ_self _⟩)
  have hB0 := hid (show Below w.heap.size w W0 from by rw [← hW0]; exact ((Below.refl _ _).alloc (Nat.le_refl _) _).alloc (by simp) _)
  have hW0' := hid hW0
  have hbc' := hid hbc
  obtain ⟨g3, hg3⟩ : ∃ g, w.heap.size = g := ⟨_, rfl⟩
  obtain ⟨x, hx⟩ : ∃ x, w.heap.size + 1 = x := ⟨_, rfl⟩
  rw [hx, hg3] at hA0
  have hg3' := hid hg3
  have hx' := hid hx
  have h2' := hid h2
  clear hW0 hbc h2 hg3 hx hs1
  go_enter Try.func30, Try.ntmps30
  go_wp2_with (first
    | ((with_reducible refine at_slot (some 13) ?_); refine wpList_make_bools rfl (.tmp 12) (.tmp 12) rfl (n : Int) n rfl rfl rfl (by have := h2'.out; omega) ?_; rw [hbc'.out])
    | ((with_reducible refine at_slot (some 15) ?_); refine wpList_run rfl (.pointer (some ⟨(w.alloc (.cells bc 4)).heap.size, 0, none⟩)) ((w.alloc (.cells bc 4)).alloc (.cells #[.slice none 0 0, .slice none 0 0, .slice (some ⟨w.heap.size, 0, none⟩) n n] 118)) (by kernel_rfl) ?_; rw [hW0'.out])
    | fail)
  simp only [hx'.out]
  go_loopw [5] (fun ix wr => ∃ (i : Nat) (A1 : Option Addr) (c1 : Nat) (A2 : Option Addr) (c2 : Nat), i ≤ n ∧ ix = .int .i64 (i : Int) ∧ RNew wr x g3 n i i A1 c1 A2 c2 z ∧ Below w.heap.size w wr) (fun ix _ => n - (intOf ix).toNat)
  case atStart => exact ⟨0, _, _, _, _, Nat.zero_le _, rfl, hA0.out, hB0.out⟩
  case round =>
    obtain ⟨i, A1, c1, A2, c2, hi, rfl, hAr, hBr⟩ := hrel
    obtain ⟨W10, rfl⟩ : ∃ V, V = wr := ⟨_, rfl⟩
    have hA10 := hid hAr
    have hB10 := hid hBr
    clear hAr hBr hA0 hB0
    by_cases hlt : i < n
    · have hlt' : (i : Int) < (n : Int) := by omega
      have s3 : (0 : Int) ≤ (i : Int) := by omega
      have hn := h2'.out
      have w1 := IntWalk.i64_in ((i : Int) + 1) (by omega)
      have hi1 := hid (show i + 1 ≤ 1000000 from by omega)
      have hlt'' := hid hlt
      clear hn hlt
      go_wp2_with fail
      skip
      have hb : Below W10.heap.size W10 W10.drew := (Below.refl _ _).drew
      have hA11 := hid (hA10.out.on hb)
      have hB11 := hid (bup hb hB10.out)
      clear hb hA10 hB10
      refine wp_region_held_drew (S := fun _ => True) (by kernel_rfl) (by exact trivial) (fun hHeld => ?_)
      generalize W10.drew = W11 at *
      refine tkn 0 (.pointer (some ⟨x, 0, none⟩)) rfl (by kernel_rfl) (fun _ _ _ h => h) (yieldsIf_move _ rfl rfl rfl) hHeld ?_
      simp only [ly, Act.put]
      refine tkn 1 (.pointer (some ⟨x, 0, none⟩)) rfl (by kernel_rfl) (fun _ _ _ h => h) (yieldsIf_move _ rfl rfl rfl) hHeld ?_
      simp only [ly, Act.put]
      refine tkn 2 (.pointer (some ⟨x, 0, none⟩)) rfl (by kernel_rfl) (fun _ _ _ h => h) (.inl ⟨by kernel_rfl, fun w _ => by go_simp⟩) hHeld ?_
      simp only [ly, Act.put]
      refine tkn 3 (.pointer (some ⟨x, 0, none⟩)) rfl (by kernel_rfl) (fun _ _ _ h => h) (.inl ⟨by kernel_rfl, fun w _ => by go_simp⟩) hHeld ?_
      simp only [ly, Act.put]
      refine wpAnyH_ready (rs := [4, 5]) (by kernel_rfl) (by simp) (AllReadyH.cons rfl (fun K hK => ?_) (AllReadyH.cons rfl (fun K hK => ?_) AllReadyH.nil))
      · skip
        have hK' := hid hK
        clear hK
        rw [if_pos (by kernel_rfl)]
        simp only [ly1, ly2, ly3]
        have cx := hA11.out.own.cK 0 _ rfl
        go_simp
        clear cx
        refine hK'.out _ _ (by exact trivial) (fun hHeld => ?_)
        clear hK' K
        refine wpAnyH_ready (rs := [5]) (by kernel_rfl) (by simp) (AllReadyH.cons rfl (fun K hK => ?_) AllReadyH.nil)
        have hK' := hid hK
        clear hK
        rw [if_pos (by kernel_rfl)]
        simp only [ly1, ly2, ly3]
        refine wp_run' (.slice (some ⟨W11.heap.size, 0, none⟩) 64 64) (W11.alloc (.cells z64 5)) (by kernel_rfl) ?_
        obtain ⟨gz7, hgz⟩ : ∃ g, W11.heap.size = g := ⟨_, rfl⟩
        generalize hW : World.alloc _ _ = W12
        obtain ⟨hN, hb⟩ := new_at7 hW
        rw [hgz] at hN ⊢
        clear hW hgz
        have hA12 := hid (hA11.out.on hb)
        have hB12 := hid (bup hb hB11.out)
        have hZ12 := hid hN
        clear hb hA11 hB11 hN
        refine hK'.out _ _ (by exact trivial) (fun hHeld => ?_)
        clear hK' K
        refine wpAnyH_ready (rs := [6]) (by kernel_rfl) (by simp) (AllReadyH.cons rfl (fun K hK => ?_) AllReadyH.nil)
        have hK' := hid hK
        clear hK
        rw [if_pos (by kernel_rfl)]
        simp only [ly1, ly2, ly3]
        refine wp_conv 51 9 (.tmp 26) rfl (.slice (some ⟨gz7, 0, none⟩) 64 64) (.string z) _ rfl (by exact run_convert_block (P := Try.prog) (t := 5) (e := 5) 51 9 Try.underlying51 Try.underlying5 Try.underlying9 (g := gz7) (c := 64) (n := 64) (s := z) hz64.out.symm hZ12.out (by exact hzc.out)) ?_
        refine hK'.out _ _ (by exact trivial) (fun hHeld => ?_)
        clear hK' K
        refine wpAnyH_ready (rs := [7]) (by kernel_rfl) (by simp) (AllReadyH.cons rfl (fun K hK => ?_) AllReadyH.nil)
        have hK' := hid hK
        clear hK
        rw [if_pos (by kernel_rfl)]
        simp only [ly1, ly2, ly3]
        refine wp_run' (.slice (some ⟨W12.heap.size, 0, none⟩) 1 1) (W12.alloc (.cells #[.string z] 9)) (by kernel_rfl) ?_
        obtain ⟨gn7, hgn⟩ : ∃ g, W12.heap.size = g := ⟨_, rfl⟩
        generalize hW : World.alloc _ _ = W13
        obtain ⟨hN, hb⟩ := new_at7 hW
        rw [hgn] at hN ⊢
        clear hW hgn
        have hA13 := hid (hA12.out.on hb)
        have hB13 := hid (bup hb hB12.out)
        have hZ13 := hid (hZ12.out.below hb hZ12.out.lt)
        have hN13 := hid hN
        clear hb hA12 hB12 hZ12 hN
        refine hK'.out _ _ (by exact trivial) (fun hHeld => ?_)
        clear hK' K
        refine wpAnyH_ready (rs := [8]) (by kernel_rfl) (by simp) (AllReadyH.cons rfl (fun K hK => ?_) AllReadyH.nil)
        have hK' := hid hK
        clear hK
        rw [if_pos (by kernel_rfl)]
        simp only [ly1, ly2, ly3]
        refine wp_append_lies W13 (.tmp 25) (.tmp 28) 50 rfl (x + 1) 9 it (.string ⟨#[]⟩) 1 16 Try.underlying50 hit'.out hitz'.out hits'.out hitb'.out rfl (by decide) (.slice A1 i c1) i (strs (List.replicate i z)) rfl hA13.out.r1 ⟨gn7, 0, none⟩ 1 1 [.string z] rfl rfl (by intro j u hu; match j, hu with | 0, hu => (obtain rfl := Option.some.inj hu; exact hN13.out.cK 0 _ rfl)) (by intro u hu; rw [List.mem_singleton.1 hu]; rfl) (by decide) (by unfold maxLen; have := hi1.out; omega) (by have := hi1.out; omega) (by have := hA13.out.own.lt; omega) _ rfl ?_
        intro g7 cap7 W14 ho hg hl _
        have hp := hA13.out.push1 ho hg hl
        have hX14 := hid hp.1
        have hP14 := hid hp.2
        have hB14 := hid (hB13.out.grown hg hB13.out.size (fun k e => by have h1 := (hA13.out.r1.lt k e).1; have h2 := hx'.out; omega))
        clear hp ho hg hl hA13 hB13 hZ13 hN13
        refine hK'.out _ _ (by exact trivial) (fun hHeld => ?_)
        clear hK' K
        refine tkn 9 (.pointer (some ⟨x, 0, none⟩)) rfl (by kernel_rfl) (fun _ _ _ h => h) (.inl ⟨by kernel_rfl, fun w _ => by go_simp⟩) hHeld ?_
        simp only [ly, Act.put]
        refine tkn 10 (.pointer (some ⟨x, 0, none⟩)) rfl (by kernel_rfl) (fun _ _ _ h => h) (.inl ⟨by kernel_rfl, fun w _ => by go_simp⟩) hHeld ?_
        simp only [ly, Act.put]
        refine wpAnyH_ready (rs := [11]) (by kernel_rfl) (by simp) (AllReadyH.cons rfl (fun K hK => ?_) AllReadyH.nil)
        have hK' := hid hK
        clear hK
        rw [if_pos (by kernel_rfl)]
        simp only [ly1, ly2, ly3]
        have cx := hX14.out.cK 0 _ rfl
        have fx := hX14.out.frozen 0
        have hBx := hid (hB14.out.setCell (p := ⟨x, 0, none⟩) (by show w.heap.size ≤ x; have := hx'.out; omega) (.slice (some ⟨g7, 0, none⟩) (i + 1) cap7))
        go_simp
        obtain ⟨W15, hW⟩ : ∃ V, W14.setCell ⟨x, 0, none⟩ (.slice (some ⟨g7, 0, none⟩) (i + 1) cap7) = V := ⟨_, rfl⟩
        rw [hW] at hP14 hBx ⊢
        have hA15 := hid hP14.out
        have hB15 := hid hBx.out
        clear hW hX14 hP14 hBx hB14 cx fx
        refine hK'.out _ _ (by exact trivial) (fun hHeld => ?_)
        clear hK' K
        refine wpAnyH_done (by kernel_rfl) ?_ _
        go_wp2_with fail
        skip
        have hb : Below W15.heap.size W15 W15.drew := (Below.refl _ _).drew
        have hA16 := hid (hA15.out.on hb)
        have hB16 := hid (bup hb hB15.out)
        clear hb hA15 hB15
        refine wp_region_held_drew (S := fun _ => True) (by kernel_rfl) (by exact trivial) (fun hHeld => ?_)
        generalize W15.drew = W16 at *
        refine tkn 0 (.pointer (some ⟨x, 0, none⟩)) rfl (by kernel_rfl) (fun _ _ _ h => h) (yieldsIf_move _ rfl rfl rfl) hHeld ?_
        simp only [ly, Act.put]
        refine tkn 1 (.pointer (some ⟨x, 0, none⟩)) rfl (by kernel_rfl) (fun _ _ _ h => h) (yieldsIf_move _ rfl rfl rfl) hHeld ?_
        simp only [ly, Act.put]
        refine tkn 2 (.pointer (some ⟨x, 0, none⟩)) rfl (by kernel_rfl) (fun _ _ _ h => h) (.inl ⟨by kernel_rfl, fun w _ => by go_simp⟩) hHeld ?_
        simp only [ly, Act.put]
        refine tkn 3 (.pointer (some ⟨x, 1, none⟩)) rfl (by kernel_rfl) (fun _ _ _ h => h) (.inl ⟨by kernel_rfl, fun w _ => by go_simp⟩) hHeld ?_
        simp only [ly, Act.put]
        refine wpAnyH_ready (rs := [4, 5]) (by kernel_rfl) (by simp) (AllReadyH.cons rfl (fun K hK => ?_) (AllReadyH.cons rfl (fun K hK => ?_) AllReadyH.nil))
        · skip
          have hK' := hid hK
          clear hK
          rw [if_pos (by kernel_rfl)]
          simp only [ly1, ly2, ly3]
          have cx := hA16.out.own.cK 1 _ rfl
          go_simp
          clear cx
          refine hK'.out _ _ (by exact trivial) (fun hHeld => ?_)
          clear hK' K
          refine wpAnyH_ready (rs := [5]) (by kernel_rfl) (by simp) (AllReadyH.cons rfl (fun K hK => ?_) AllReadyH.nil)
          have hK' := hid hK
          clear hK
          rw [if_pos (by kernel_rfl)]
          simp only [ly1, ly2, ly3]
          refine wp_run' (.slice (some ⟨W16.heap.size, 0, none⟩) 64 64) (W16.alloc (.cells z64 5)) (by kernel_rfl) ?_
          obtain ⟨gz8, hgz⟩ : ∃ g, W16.heap.size = g := ⟨_, rfl⟩
          generalize hW : World.alloc _ _ = W17
          obtain ⟨hN, hb⟩ := new_at7 hW
          rw [hgz] at hN ⊢
          clear hW hgz
          have hA17 := hid (hA16.out.on hb)
          have hB17 := hid (bup hb hB16.out)
          have hZ17 := hid hN
          clear hb hA16 hB16 hN
          refine hK'.out _ _ (by exact trivial) (fun hHeld => ?_)
          clear hK' K
          refine wpAnyH_ready (rs := [6]) (by kernel_rfl) (by simp) (AllReadyH.cons rfl (fun K hK => ?_) AllReadyH.nil)
          have hK' := hid hK
          clear hK
          rw [if_pos (by kernel_rfl)]
          simp only [ly1, ly2, ly3]
          refine wp_conv 51 9 (.tmp 37) rfl (.slice (some ⟨gz8, 0, none⟩) 64 64) (.string z) _ rfl (by exact run_convert_block (P := Try.prog) (t := 5) (e := 5) 51 9 Try.underlying51 Try.underlying5 Try.underlying9 (g := gz8) (c := 64) (n := 64) (s := z) hz64.out.symm hZ17.out (by exact hzc.out)) ?_
          refine hK'.out _ _ (by exact trivial) (fun hHeld => ?_)
          clear hK' K
          refine wpAnyH_ready (rs := [7]) (by kernel_rfl) (by simp) (AllReadyH.cons rfl (fun K hK => ?_) AllReadyH.nil)
          have hK' := hid hK
          clear hK
          rw [if_pos (by kernel_rfl)]
          simp only [ly1, ly2, ly3]
          refine wp_run' (.slice (some ⟨W17.heap.size, 0, none⟩) 1 1) (W17.alloc (.cells #[.string z] 9)) (by kernel_rfl) ?_
          obtain ⟨gn8, hgn⟩ : ∃ g, W17.heap.size = g := ⟨_, rfl⟩
          generalize hW : World.alloc _ _ = W18
          obtain ⟨hN, hb⟩ := new_at7 hW
          rw [hgn] at hN ⊢
          clear hW hgn
          have hA18 := hid (hA17.out.on hb)
          have hB18 := hid (bup hb hB17.out)
          have hZ18 := hid (hZ17.out.below hb hZ17.out.lt)
          have hN18 := hid hN
          clear hb hA17 hB17 hZ17 hN
          refine hK'.out _ _ (by exact trivial) (fun hHeld => ?_)
          clear hK' K
          refine wpAnyH_ready (rs := [8]) (by kernel_rfl) (by simp) (AllReadyH.cons rfl (fun K hK => ?_) AllReadyH.nil)
          have hK' := hid hK
          clear hK
          rw [if_pos (by kernel_rfl)]
          simp only [ly1, ly2, ly3]
          refine wp_append_lies W18 (.tmp 36) (.tmp 39) 50 rfl (x + 1) 9 it (.string ⟨#[]⟩) 1 16 Try.underlying50 hit'.out hitz'.out hits'.out hitb'.out rfl (by decide) (.slice A2 i c2) i (strs (List.replicate i z)) rfl hA18.out.r2 ⟨gn8, 0, none⟩ 1 1 [.string z] rfl rfl (by intro j u hu; match j, hu with | 0, hu => (obtain rfl := Option.some.inj hu; exact hN18.out.cK 0 _ rfl)) (by intro u hu; rw [List.mem_singleton.1 hu]; rfl) (by decide) (by unfold maxLen; have := hi1.out; omega) (by have := hi1.out; omega) (by have := hA18.out.own.lt; omega) _ rfl ?_
          intro g8 cap8 W19 ho hg hl _
          have hp := hA18.out.push2 ho hg hl
          have hX19 := hid hp.1
          have hP19 := hid hp.2
          have hB19 := hid (hB18.out.grown hg hB18.out.size (fun k e => by have h1 := (hA18.out.r2.lt k e).1; have h2 := hx'.out; omega))
          clear hp ho hg hl hA18 hB18 hZ18 hN18
          refine hK'.out _ _ (by exact trivial) (fun hHeld => ?_)
          clear hK' K
          refine tkn 9 (.pointer (some ⟨x, 0, none⟩)) rfl (by kernel_rfl) (fun _ _ _ h => h) (.inl ⟨by kernel_rfl, fun w _ => by go_simp⟩) hHeld ?_
          simp only [ly, Act.put]
          refine tkn 10 (.pointer (some ⟨x, 1, none⟩)) rfl (by kernel_rfl) (fun _ _ _ h => h) (.inl ⟨by kernel_rfl, fun w _ => by go_simp⟩) hHeld ?_
          simp only [ly, Act.put]
          refine wpAnyH_ready (rs := [11]) (by kernel_rfl) (by simp) (AllReadyH.cons rfl (fun K hK => ?_) AllReadyH.nil)
          have hK' := hid hK
          clear hK
          rw [if_pos (by kernel_rfl)]
          simp only [ly1, ly2, ly3]
          have cx := hX19.out.cK 1 _ rfl
          have fx := hX19.out.frozen 1
          have hBx := hid (hB19.out.setCell (p := ⟨x, 1, none⟩) (by show w.heap.size ≤ x; have := hx'.out; omega) (.slice (some ⟨g8, 0, none⟩) (i + 1) cap8))
          go_simp
          obtain ⟨W20, hW⟩ : ∃ V, W19.setCell ⟨x, 1, none⟩ (.slice (some ⟨g8, 0, none⟩) (i + 1) cap8) = V := ⟨_, rfl⟩
          rw [hW] at hP19 hBx ⊢
          have hA20 := hid hP19.out
          have hB20 := hid hBx.out
          clear hW hX19 hP19 hBx hB19 cx fx
          refine hK'.out _ _ (by exact trivial) (fun hHeld => ?_)
          clear hK' K
          refine wpAnyH_done (by kernel_rfl) ?_ _
          go_wp2_with fail
          go_roundw
          case rel => exact ⟨i + 1, _, _, _, _, by have := hlt''.out; omega, by go_num, hA20.out, hB20.out⟩
          case measure => have := hlt''.out; simp [intOf]; omega
        · skip
          have hK' := hid hK
          clear hK
          rw [if_pos (by kernel_rfl)]
          simp only [ly1, ly2, ly3]
          refine wp_run' (.slice (some ⟨W16.heap.size, 0, none⟩) 64 64) (W16.alloc (.cells z64 5)) (by kernel_rfl) ?_
          obtain ⟨gz8, hgz⟩ : ∃ g, W16.heap.size = g := ⟨_, rfl⟩
          generalize hW : World.alloc _ _ = W17
          obtain ⟨hN, hb⟩ := new_at7 hW
          rw [hgz] at hN ⊢
          clear hW hgz
          have hA17 := hid (hA16.out.on hb)
          have hB17 := hid (bup hb hB16.out)
          have hZ17 := hid hN
          clear hb hA16 hB16 hN
          refine hK'.out _ _ (by exact trivial) (fun hHeld => ?_)
          clear hK' K
          refine wpAnyH_ready (rs := [4, 6]) (by kernel_rfl) (by simp) (AllReadyH.cons rfl (fun K hK => ?_) (AllReadyH.cons rfl (fun K hK => ?_) AllReadyH.nil))
          · skip
            have hK' := hid hK
            clear hK
            rw [if_pos (by kernel_rfl)]
            simp only [ly1, ly2, ly3]
            have cx := hA17.out.own.cK 1 _ rfl
            go_simp
            clear cx
            refine hK'.out _ _ (by exact trivial) (fun hHeld => ?_)
            clear hK' K
            refine wpAnyH_ready (rs := [6]) (by kernel_rfl) (by simp) (AllReadyH.cons rfl (fun K hK => ?_) AllReadyH.nil)
            have hK' := hid hK
            clear hK
            rw [if_pos (by kernel_rfl)]
            simp only [ly1, ly2, ly3]
            refine wp_conv 51 9 (.tmp 37) rfl (.slice (some ⟨gz8, 0, none⟩) 64 64) (.string z) _ rfl (by exact run_convert_block (P := Try.prog) (t := 5) (e := 5) 51 9 Try.underlying51 Try.underlying5 Try.underlying9 (g := gz8) (c := 64) (n := 64) (s := z) hz64.out.symm hZ17.out (by exact hzc.out)) ?_
            refine hK'.out _ _ (by exact trivial) (fun hHeld => ?_)
            clear hK' K
            refine wpAnyH_ready (rs := [7]) (by kernel_rfl) (by simp) (AllReadyH.cons rfl (fun K hK => ?_) AllReadyH.nil)
            have hK' := hid hK
            clear hK
            rw [if_pos (by kernel_rfl)]
            simp only [ly1, ly2, ly3]
            refine wp_run' (.slice (some ⟨W17.heap.size, 0, none⟩) 1 1) (W17.alloc (.cells #[.string z] 9)) (by kernel_rfl) ?_
            obtain ⟨gn8, hgn⟩ : ∃ g, W17.heap.size = g := ⟨_, rfl⟩
            generalize hW : World.alloc _ _ = W18
            obtain ⟨hN, hb⟩ := new_at7 hW
            rw [hgn] at hN ⊢
            clear hW hgn
            have hA18 := hid (hA17.out.on hb)
            have hB18 := hid (bup hb hB17.out)
            have hZ18 := hid (hZ17.out.below hb hZ17.out.lt)
            have hN18 := hid hN
            clear hb hA17 hB17 hZ17 hN
            refine hK'.out _ _ (by exact trivial) (fun hHeld => ?_)
            clear hK' K
            refine wpAnyH_ready (rs := [8]) (by kernel_rfl) (by simp) (AllReadyH.cons rfl (fun K hK => ?_) AllReadyH.nil)
            have hK' := hid hK
            clear hK
            rw [if_pos (by kernel_rfl)]
            simp only [ly1, ly2, ly3]
            refine wp_append_lies W18 (.tmp 36) (.tmp 39) 50 rfl (x + 1) 9 it (.string ⟨#[]⟩) 1 16 Try.underlying50 hit'.out hitz'.out hits'.out hitb'.out rfl (by decide) (.slice A2 i c2) i (strs (List.replicate i z)) rfl hA18.out.r2 ⟨gn8, 0, none⟩ 1 1 [.string z] rfl rfl (by intro j u hu; match j, hu with | 0, hu => (obtain rfl := Option.some.inj hu; exact hN18.out.cK 0 _ rfl)) (by intro u hu; rw [List.mem_singleton.1 hu]; rfl) (by decide) (by unfold maxLen; have := hi1.out; omega) (by have := hi1.out; omega) (by have := hA18.out.own.lt; omega) _ rfl ?_
            intro g8 cap8 W19 ho hg hl _
            have hp := hA18.out.push2 ho hg hl
            have hX19 := hid hp.1
            have hP19 := hid hp.2
            have hB19 := hid (hB18.out.grown hg hB18.out.size (fun k e => by have h1 := (hA18.out.r2.lt k e).1; have h2 := hx'.out; omega))
            clear hp ho hg hl hA18 hB18 hZ18 hN18
            refine hK'.out _ _ (by exact trivial) (fun hHeld => ?_)
            clear hK' K
            refine tkn 9 (.pointer (some ⟨x, 0, none⟩)) rfl (by kernel_rfl) (fun _ _ _ h => h) (.inl ⟨by kernel_rfl, fun w _ => by go_simp⟩) hHeld ?_
            simp only [ly, Act.put]
            refine tkn 10 (.pointer (some ⟨x, 1, none⟩)) rfl (by kernel_rfl) (fun _ _ _ h => h) (.inl ⟨by kernel_rfl, fun w _ => by go_simp⟩) hHeld ?_
            simp only [ly, Act.put]
            refine wpAnyH_ready (rs := [11]) (by kernel_rfl) (by simp) (AllReadyH.cons rfl (fun K hK => ?_) AllReadyH.nil)
            have hK' := hid hK
            clear hK
            rw [if_pos (by kernel_rfl)]
            simp only [ly1, ly2, ly3]
            have cx := hX19.out.cK 1 _ rfl
            have fx := hX19.out.frozen 1
            have hBx := hid (hB19.out.setCell (p := ⟨x, 1, none⟩) (by show w.heap.size ≤ x; have := hx'.out; omega) (.slice (some ⟨g8, 0, none⟩) (i + 1) cap8))
            go_simp
            obtain ⟨W20, hW⟩ : ∃ V, W19.setCell ⟨x, 1, none⟩ (.slice (some ⟨g8, 0, none⟩) (i + 1) cap8) = V := ⟨_, rfl⟩
            rw [hW] at hP19 hBx ⊢
            have hA20 := hid hP19.out
            have hB20 := hid hBx.out
            clear hW hX19 hP19 hBx hB19 cx fx
            refine hK'.out _ _ (by exact trivial) (fun hHeld => ?_)
            clear hK' K
            refine wpAnyH_done (by kernel_rfl) ?_ _
            go_wp2_with fail
            go_roundw
            case rel => exact ⟨i + 1, _, _, _, _, by have := hlt''.out; omega, by go_num, hA20.out, hB20.out⟩
            case measure => have := hlt''.out; simp [intOf]; omega
          · skip
            have hK' := hid hK
            clear hK
            rw [if_pos (by kernel_rfl)]
            simp only [ly1, ly2, ly3]
            refine wp_conv 51 9 (.tmp 37) rfl (.slice (some ⟨gz8, 0, none⟩) 64 64) (.string z) _ rfl (by exact run_convert_block (P := Try.prog) (t := 5) (e := 5) 51 9 Try.underlying51 Try.underlying5 Try.underlying9 (g := gz8) (c := 64) (n := 64) (s := z) hz64.out.symm hZ17.out (by exact hzc.out)) ?_
            refine hK'.out _ _ (by exact trivial) (fun hHeld => ?_)
            clear hK' K
            refine wpAnyH_ready (rs := [4, 7]) (by kernel_rfl) (by simp) (AllReadyH.cons rfl (fun K hK => ?_) (AllReadyH.cons rfl (fun K hK => ?_) AllReadyH.nil))
            · skip
              have hK' := hid hK
              clear hK
              rw [if_pos (by kernel_rfl)]
              simp only [ly1, ly2, ly3]
              have cx := hA17.out.own.cK 1 _ rfl
              go_simp
              clear cx
              refine hK'.out _ _ (by exact trivial) (fun hHeld => ?_)
              clear hK' K
              refine wpAnyH_ready (rs := [7]) (by kernel_rfl) (by simp) (AllReadyH.cons rfl (fun K hK => ?_) AllReadyH.nil)
              have hK' := hid hK
              clear hK
              rw [if_pos (by kernel_rfl)]
              simp only [ly1, ly2, ly3]
              refine wp_run' (.slice (some ⟨W17.heap.size, 0, none⟩) 1 1) (W17.alloc (.cells #[.string z] 9)) (by kernel_rfl) ?_
              obtain ⟨gn8, hgn⟩ : ∃ g, W17.heap.size = g := ⟨_, rfl⟩
              generalize hW : World.alloc _ _ = W18
              obtain ⟨hN, hb⟩ := new_at7 hW
              rw [hgn] at hN ⊢
              clear hW hgn
              have hA18 := hid (hA17.out.on hb)
              have hB18 := hid (bup hb hB17.out)
              have hZ18 := hid (hZ17.out.below hb hZ17.out.lt)
              have hN18 := hid hN
              clear hb hA17 hB17 hZ17 hN
              refine hK'.out _ _ (by exact trivial) (fun hHeld => ?_)
              clear hK' K
              refine wpAnyH_ready (rs := [8]) (by kernel_rfl) (by simp) (AllReadyH.cons rfl (fun K hK => ?_) AllReadyH.nil)
              have hK' := hid hK
              clear hK
              rw [if_pos (by kernel_rfl)]
              simp only [ly1, ly2, ly3]
              refine wp_append_lies W18 (.tmp 36) (.tmp 39) 50 rfl (x + 1) 9 it (.string ⟨#[]⟩) 1 16 Try.underlying50 hit'.out hitz'.out hits'.out hitb'.out rfl (by decide) (.slice A2 i c2) i (strs (List.replicate i z)) rfl hA18.out.r2 ⟨gn8, 0, none⟩ 1 1 [.string z] rfl rfl (by intro j u hu; match j, hu with | 0, hu => (obtain rfl := Option.some.inj hu; exact hN18.out.cK 0 _ rfl)) (by intro u hu; rw [List.mem_singleton.1 hu]; rfl) (by decide) (by unfold maxLen; have := hi1.out; omega) (by have := hi1.out; omega) (by have := hA18.out.own.lt; omega) _ rfl ?_
              intro g8 cap8 W19 ho hg hl _
              have hp := hA18.out.push2 ho hg hl
              have hX19 := hid hp.1
              have hP19 := hid hp.2
              have hB19 := hid (hB18.out.grown hg hB18.out.size (fun k e => by have h1 := (hA18.out.r2.lt k e).1; have h2 := hx'.out; omega))
              clear hp ho hg hl hA18 hB18 hZ18 hN18
              refine hK'.out _ _ (by exact trivial) (fun hHeld => ?_)
              clear hK' K
              refine tkn 9 (.pointer (some ⟨x, 0, none⟩)) rfl (by kernel_rfl) (fun _ _ _ h => h) (.inl ⟨by kernel_rfl, fun w _ => by go_simp⟩) hHeld ?_
              simp only [ly, Act.put]
              refine tkn 10 (.pointer (some ⟨x, 1, none⟩)) rfl (by kernel_rfl) (fun _ _ _ h => h) (.inl ⟨by kernel_rfl, fun w _ => by go_simp⟩) hHeld ?_
              simp only [ly, Act.put]
              refine wpAnyH_ready (rs := [11]) (by kernel_rfl) (by simp) (AllReadyH.cons rfl (fun K hK => ?_) AllReadyH.nil)
              have hK' := hid hK
              clear hK
              rw [if_pos (by kernel_rfl)]
              simp only [ly1, ly2, ly3]
              have cx := hX19.out.cK 1 _ rfl
              have fx := hX19.out.frozen 1
              have hBx := hid (hB19.out.setCell (p := ⟨x, 1, none⟩) (by show w.heap.size ≤ x; have := hx'.out; omega) (.slice (some ⟨g8, 0, none⟩) (i + 1) cap8))
              go_simp
              obtain ⟨W20, hW⟩ : ∃ V, W19.setCell ⟨x, 1, none⟩ (.slice (some ⟨g8, 0, none⟩) (i + 1) cap8) = V := ⟨_, rfl⟩
              rw [hW] at hP19 hBx ⊢
              have hA20 := hid hP19.out
              have hB20 := hid hBx.out
              clear hW hX19 hP19 hBx hB19 cx fx
              refine hK'.out _ _ (by exact trivial) (fun hHeld => ?_)
              clear hK' K
              refine wpAnyH_done (by kernel_rfl) ?_ _
              go_wp2_with fail
              go_roundw
              case rel => exact ⟨i + 1, _, _, _, _, by have := hlt''.out; omega, by go_num, hA20.out, hB20.out⟩
              case measure => have := hlt''.out; simp [intOf]; omega
            · skip
              have hK' := hid hK
              clear hK
              rw [if_pos (by kernel_rfl)]
              simp only [ly1, ly2, ly3]
              refine wp_run' (.slice (some ⟨W17.heap.size, 0, none⟩) 1 1) (W17.alloc (.cells #[.string z] 9)) (by kernel_rfl) ?_
              obtain ⟨gn8, hgn⟩ : ∃ g, W17.heap.size = g := ⟨_, rfl⟩
              generalize hW : World.alloc _ _ = W18
              obtain ⟨hN, hb⟩ := new_at7 hW
              rw [hgn] at hN ⊢
              clear hW hgn
              have hA18 := hid (hA17.out.on hb)
              have hB18 := hid (bup hb hB17.out)
              have hZ18 := hid (hZ17.out.below hb hZ17.out.lt)
              have hN18 := hid hN
              clear hb hA17 hB17 hZ17 hN
              refine hK'.out _ _ (by exact trivial) (fun hHeld => ?_)
              clear hK' K
              refine wpAnyH_ready (rs := [4]) (by kernel_rfl) (by simp) (AllReadyH.cons rfl (fun K hK => ?_) AllReadyH.nil)
              have hK' := hid hK
              clear hK
              rw [if_pos (by kernel_rfl)]
              simp only [ly1, ly2, ly3]
              have cx := hA18.out.own.cK 1 _ rfl
              go_simp
              clear cx
              refine hK'.out _ _ (by exact trivial) (fun hHeld => ?_)
              clear hK' K
              refine wpAnyH_ready (rs := [8]) (by kernel_rfl) (by simp) (AllReadyH.cons rfl (fun K hK => ?_) AllReadyH.nil)
              have hK' := hid hK
              clear hK
              rw [if_pos (by kernel_rfl)]
              simp only [ly1, ly2, ly3]
              refine wp_append_lies W18 (.tmp 36) (.tmp 39) 50 rfl (x + 1) 9 it (.string ⟨#[]⟩) 1 16 Try.underlying50 hit'.out hitz'.out hits'.out hitb'.out rfl (by decide) (.slice A2 i c2) i (strs (List.replicate i z)) rfl hA18.out.r2 ⟨gn8, 0, none⟩ 1 1 [.string z] rfl rfl (by intro j u hu; match j, hu with | 0, hu => (obtain rfl := Option.some.inj hu; exact hN18.out.cK 0 _ rfl)) (by intro u hu; rw [List.mem_singleton.1 hu]; rfl) (by decide) (by unfold maxLen; have := hi1.out; omega) (by have := hi1.out; omega) (by have := hA18.out.own.lt; omega) _ rfl ?_
              intro g8 cap8 W19 ho hg hl _
              have hp := hA18.out.push2 ho hg hl
              have hX19 := hid hp.1
              have hP19 := hid hp.2
              have hB19 := hid (hB18.out.grown hg hB18.out.size (fun k e => by have h1 := (hA18.out.r2.lt k e).1; have h2 := hx'.out; omega))
              clear hp ho hg hl hA18 hB18 hZ18 hN18
              refine hK'.out _ _ (by exact trivial) (fun hHeld => ?_)
              clear hK' K
              refine tkn 9 (.pointer (some ⟨x, 0, none⟩)) rfl (by kernel_rfl) (fun _ _ _ h => h) (.inl ⟨by kernel_rfl, fun w _ => by go_simp⟩) hHeld ?_
              simp only [ly, Act.put]
              refine tkn 10 (.pointer (some ⟨x, 1, none⟩)) rfl (by kernel_rfl) (fun _ _ _ h => h) (.inl ⟨by kernel_rfl, fun w _ => by go_simp⟩) hHeld ?_
              simp only [ly, Act.put]
              refine wpAnyH_ready (rs := [11]) (by kernel_rfl) (by simp) (AllReadyH.cons rfl (fun K hK => ?_) AllReadyH.nil)
              have hK' := hid hK
              clear hK
              rw [if_pos (by kernel_rfl)]
              simp only [ly1, ly2, ly3]
              have cx := hX19.out.cK 1 _ rfl
              have fx := hX19.out.frozen 1
              have hBx := hid (hB19.out.setCell (p := ⟨x, 1, none⟩) (by show w.heap.size ≤ x; have := hx'.out; omega) (.slice (some ⟨g8, 0, none⟩) (i + 1) cap8))
              go_simp
              obtain ⟨W20, hW⟩ : ∃ V, W19.setCell ⟨x, 1, none⟩ (.slice (some ⟨g8, 0, none⟩) (i + 1) cap8) = V := ⟨_, rfl⟩
              rw [hW] at hP19 hBx ⊢
              have hA20 := hid hP19.out
              have hB20 := hid hBx.out
              clear hW hX19 hP19 hBx hB19 cx fx
              refine hK'.out _ _ (by exact trivial) (fun hHeld => ?_)
              clear hK' K
              refine wpAnyH_done (by kernel_rfl) ?_ _
              go_wp2_with fail
              go_roundw
              case rel => exact ⟨i + 1, _, _, _, _, by have := hlt''.out; omega, by go_num, hA20.out, hB20.out⟩
              case measure => have := hlt''.out; simp [intOf]; omega
      · skip
        have hK' := hid hK
        clear hK
        rw [if_pos (by kernel_rfl)]
        simp only [ly1, ly2, ly3]
        refine wp_run' (.slice (some ⟨W11.heap.size, 0, none⟩) 64 64) (W11.alloc (.cells z64 5)) (by kernel_rfl) ?_
        obtain ⟨gz7, hgz⟩ : ∃ g, W11.heap.size = g := ⟨_, rfl⟩
        generalize hW : World.alloc _ _ = W12
        obtain ⟨hN, hb⟩ := new_at7 hW
        rw [hgz] at hN ⊢
        clear hW hgz
        have hA12 := hid (hA11.out.on hb)
        have hB12 := hid (bup hb hB11.out)
        have hZ12 := hid hN
        clear hb hA11 hB11 hN
        refine hK'.out _ _ (by exact trivial) (fun hHeld => ?_)
        clear hK' K
        refine wpAnyH_ready (rs := [4, 6]) (by kernel_rfl) (by simp) (AllReadyH.cons rfl (fun K hK => ?_) (AllReadyH.cons rfl (fun K hK => ?_) AllReadyH.nil))
        · skip
          have hK' := hid hK
          clear hK
          rw [if_pos (by kernel_rfl)]
          simp only [ly1, ly2, ly3]
          have cx := hA12.out.own.cK 0 _ rfl
          go_simp
          clear cx
          refine hK'.out _ _ (by exact trivial) (fun hHeld => ?_)
          clear hK' K
          refine wpAnyH_ready (rs := [6]) (by kernel_rfl) (by simp) (AllReadyH.cons rfl (fun K hK => ?_) AllReadyH.nil)
          have hK' := hid hK
          clear hK
          rw [if_pos (by kernel_rfl)]
          simp only [ly1, ly2, ly3]
          refine wp_conv 51 9 (.tmp 26) rfl (.slice (some ⟨gz7, 0, none⟩) 64 64) (.string z) _ rfl (by exact run_convert_block (P := Try.prog) (t := 5) (e := 5) 51 9 Try.underlying51 Try.underlying5 Try.underlying9 (g := gz7) (c := 64) (n := 64) (s := z) hz64.out.symm hZ12.out (by exact hzc.out)) ?_
          refine hK'.out _ _ (by exact trivial) (fun hHeld => ?_)
          clear hK' K
          refine wpAnyH_ready (rs := [7]) (by kernel_rfl) (by simp) (AllReadyH.cons rfl (fun K hK => ?_) AllReadyH.nil)
          have hK' := hid hK
          clear hK
          rw [if_pos (by kernel_rfl)]
          simp only [ly1, ly2, ly3]
          refine wp_run' (.slice (some ⟨W12.heap.size, 0, none⟩) 1 1) (W12.alloc (.cells #[.string z] 9)) (by kernel_rfl) ?_
          obtain ⟨gn7, hgn⟩ : ∃ g, W12.heap.size = g := ⟨_, rfl⟩
          generalize hW : World.alloc _ _ = W13
          obtain ⟨hN, hb⟩ := new_at7 hW
          rw [hgn] at hN ⊢
          clear hW hgn
          have hA13 := hid (hA12.out.on hb)
          have hB13 := hid (bup hb hB12.out)
          have hZ13 := hid (hZ12.out.below hb hZ12.out.lt)
          have hN13 := hid hN
          clear hb hA12 hB12 hZ12 hN
          refine hK'.out _ _ (by exact trivial) (fun hHeld => ?_)
          clear hK' K
          refine wpAnyH_ready (rs := [8]) (by kernel_rfl) (by simp) (AllReadyH.cons rfl (fun K hK => ?_) AllReadyH.nil)
          have hK' := hid hK
          clear hK
          rw [if_pos (by kernel_rfl)]
          simp only [ly1, ly2, ly3]
          refine wp_append_lies W13 (.tmp 25) (.tmp 28) 50 rfl (x + 1) 9 it (.string ⟨#[]⟩) 1 16 Try.underlying50 hit'.out hitz'.out hits'.out hitb'.out rfl (by decide) (.slice A1 i c1) i (strs (List.replicate i z)) rfl hA13.out.r1 ⟨gn7, 0, none⟩ 1 1 [.string z] rfl rfl (by intro j u hu; match j, hu with | 0, hu => (obtain rfl := Option.some.inj hu; exact hN13.out.cK 0 _ rfl)) (by intro u hu; rw [List.mem_singleton.1 hu]; rfl) (by decide) (by unfold maxLen; have := hi1.out; omega) (by have := hi1.out; omega) (by have := hA13.out.own.lt; omega) _ rfl ?_
          intro g7 cap7 W14 ho hg hl _
          have hp := hA13.out.push1 ho hg hl
          have hX14 := hid hp.1
          have hP14 := hid hp.2
          have hB14 := hid (hB13.out.grown hg hB13.out.size (fun k e => by have h1 := (hA13.out.r1.lt k e).1; have h2 := hx'.out; omega))
          clear hp ho hg hl hA13 hB13 hZ13 hN13
          refine hK'.out _ _ (by exact trivial) (fun hHeld => ?_)
          clear hK' K
          refine tkn 9 (.pointer (some ⟨x, 0, none⟩)) rfl (by kernel_rfl) (fun _ _ _ h => h) (.inl ⟨by kernel_rfl, fun w _ => by go_simp⟩) hHeld ?_
          simp only [ly, Act.put]
          refine tkn 10 (.pointer (some ⟨x, 0, none⟩)) rfl (by kernel_rfl) (fun _ _ _ h => h) (.inl ⟨by kernel_rfl, fun w _ => by go_simp⟩) hHeld ?_
          simp only [ly, Act.put]
          refine wpAnyH_ready (rs := [11]) (by kernel_rfl) (by simp) (AllReadyH.cons rfl (fun K hK => ?_) AllReadyH.nil)
          have hK' := hid hK
          clear hK
          rw [if_pos (by kernel_rfl)]
          simp only [ly1, ly2, ly3]
          have cx := hX14.out.cK 0 _ rfl
          have fx := hX14.out.frozen 0
          have hBx := hid (hB14.out.setCell (p := ⟨x, 0, none⟩) (by show w.heap.size ≤ x; have := hx'.out; omega) (.slice (some ⟨g7, 0, none⟩) (i + 1) cap7))
          go_simp
          obtain ⟨W15, hW⟩ : ∃ V, W14.setCell ⟨x, 0, none⟩ (.slice (some ⟨g7, 0, none⟩) (i + 1) cap7) = V := ⟨_, rfl⟩
          rw [hW] at hP14 hBx ⊢
          have hA15 := hid hP14.out
          have hB15 := hid hBx.out
          clear hW hX14 hP14 hBx hB14 cx fx
          refine hK'.out _ _ (by exact trivial) (fun hHeld => ?_)
          clear hK' K
          refine wpAnyH_done (by kernel_rfl) ?_ _
          go_wp2_with fail
          skip
          have hb : Below W15.heap.size W15 W15.drew := (Below.refl _ _).drew
          have hA16 := hid (hA15.out.on hb)
          have hB16 := hid (bup hb hB15.out)
          clear hb hA15 hB15
          refine wp_region_held_drew (S := fun _ => True) (by kernel_rfl) (by exact trivial) (fun hHeld => ?_)
          generalize W15.drew = W16 at *
          refine tkn 0 (.pointer (some ⟨x, 0, none⟩)) rfl (by kernel_rfl) (fun _ _ _ h => h) (yieldsIf_move _ rfl rfl rfl) hHeld ?_
          simp only [ly, Act.put]
          refine tkn 1 (.pointer (some ⟨x, 0, none⟩)) rfl (by kernel_rfl) (fun _ _ _ h => h) (yieldsIf_move _ rfl rfl rfl) hHeld ?_
          simp only [ly, Act.put]
          refine tkn 2 (.pointer (some ⟨x, 0, none⟩)) rfl (by kernel_rfl) (fun _ _ _ h => h) (.inl ⟨by kernel_rfl, fun w _ => by go_simp⟩) hHeld ?_
          simp only [ly, Act.put]
          refine tkn 3 (.pointer (some ⟨x, 1, none⟩)) rfl (by kernel_rfl) (fun _ _ _ h => h) (.inl ⟨by kernel_rfl, fun w _ => by go_simp⟩) hHeld ?_
          simp only [ly, Act.put]
          refine wpAnyH_ready (rs := [4, 5]) (by kernel_rfl) (by simp) (AllReadyH.cons rfl (fun K hK => ?_) (AllReadyH.cons rfl (fun K hK => ?_) AllReadyH.nil))
          · skip
            have hK' := hid hK
            clear hK
            rw [if_pos (by kernel_rfl)]
            simp only [ly1, ly2, ly3]
            have cx := hA16.out.own.cK 1 _ rfl
            go_simp
            clear cx
            refine hK'.out _ _ (by exact trivial) (fun hHeld => ?_)
            clear hK' K
            refine wpAnyH_ready (rs := [5]) (by kernel_rfl) (by simp) (AllReadyH.cons rfl (fun K hK => ?_) AllReadyH.nil)
            have hK' := hid hK
            clear hK
            rw [if_pos (by kernel_rfl)]
            simp only [ly1, ly2, ly3]
            refine wp_run' (.slice (some ⟨W16.heap.size, 0, none⟩) 64 64) (W16.alloc (.cells z64 5)) (by kernel_rfl) ?_
            obtain ⟨gz8, hgz⟩ : ∃ g, W16.heap.size = g := ⟨_, rfl⟩
            generalize hW : World.alloc _ _ = W17
            obtain ⟨hN, hb⟩ := new_at7 hW
            rw [hgz] at hN ⊢
            clear hW hgz
            have hA17 := hid (hA16.out.on hb)
            have hB17 := hid (bup hb hB16.out)
            have hZ17 := hid hN
            clear hb hA16 hB16 hN
            refine hK'.out _ _ (by exact trivial) (fun hHeld => ?_)
            clear hK' K
            refine wpAnyH_ready (rs := [6]) (by kernel_rfl) (by simp) (AllReadyH.cons rfl (fun K hK => ?_) AllReadyH.nil)
            have hK' := hid hK
            clear hK
            rw [if_pos (by kernel_rfl)]
            simp only [ly1, ly2, ly3]
            refine wp_conv 51 9 (.tmp 37) rfl (.slice (some ⟨gz8, 0, none⟩) 64 64) (.string z) _ rfl (by exact run_convert_block (P := Try.prog) (t := 5) (e := 5) 51 9 Try.underlying51 Try.underlying5 Try.underlying9 (g := gz8) (c := 64) (n := 64) (s := z) hz64.out.symm hZ17.out (by exact hzc.out)) ?_
            refine hK'.out _ _ (by exact trivial) (fun hHeld => ?_)
            clear hK' K
            refine wpAnyH_ready (rs := [7]) (by kernel_rfl) (by simp) (AllReadyH.cons rfl (fun K hK => ?_) AllReadyH.nil)
            have hK' := hid hK
            clear hK
            rw [if_pos (by kernel_rfl)]
            simp only [ly1, ly2, ly3]
            refine wp_run' (.slice (some ⟨W17.heap.size, 0, none⟩) 1 1) (W17.alloc (.cells #[.string z] 9)) (by kernel_rfl) ?_
            obtain ⟨gn8, hgn⟩ : ∃ g, W17.heap.size = g := ⟨_, rfl⟩
            generalize hW : World.alloc _ _ = W18
            obtain ⟨hN, hb⟩ := new_at7 hW
            rw [hgn] at hN ⊢
            clear hW hgn
            have hA18 := hid (hA17.out.on hb)
            have hB18 := hid (bup hb hB17.out)
            have hZ18 := hid (hZ17.out.below hb hZ17.out.lt)
            have hN18 := hid hN
            clear hb hA17 hB17 hZ17 hN
            refine hK'.out _ _ (by exact trivial) (fun hHeld => ?_)
            clear hK' K
            refine wpAnyH_ready (rs := [8]) (by kernel_rfl) (by simp) (AllReadyH.cons rfl (fun K hK => ?_) AllReadyH.nil)
            have hK' := hid hK
            clear hK
            rw [if_pos (by kernel_rfl)]
            simp only [ly1, ly2, ly3]
            refine wp_append_lies W18 (.tmp 36) (.tmp 39) 50 rfl (x + 1) 9 it (.string ⟨#[]⟩) 1 16 Try.underlying50 hit'.out hitz'.out hits'.out hitb'.out rfl (by decide) (.slice A2 i c2) i (strs (List.replicate i z)) rfl hA18.out.r2 ⟨gn8, 0, none⟩ 1 1 [.string z] rfl rfl (by intro j u hu; match j, hu with | 0, hu => (obtain rfl := Option.some.inj hu; exact hN18.out.cK 0 _ rfl)) (by intro u hu; rw [List.mem_singleton.1 hu]; rfl) (by decide) (by unfold maxLen; have := hi1.out; omega) (by have := hi1.out; omega) (by have := hA18.out.own.lt; omega) _ rfl ?_
            intro g8 cap8 W19 ho hg hl _
            have hp := hA18.out.push2 ho hg hl
            have hX19 := hid hp.1
            have hP19 := hid hp.2
            have hB19 := hid (hB18.out.grown hg hB18.out.size (fun k e => by have h1 := (hA18.out.r2.lt k e).1; have h2 := hx'.out; omega))
            clear hp ho hg hl hA18 hB18 hZ18 hN18
            refine hK'.out _ _ (by exact trivial) (fun hHeld => ?_)
            clear hK' K
            refine tkn 9 (.pointer (some ⟨x, 0, none⟩)) rfl (by kernel_rfl) (fun _ _ _ h => h) (.inl ⟨by kernel_rfl, fun w _ => by go_simp⟩) hHeld ?_
            simp only [ly, Act.put]
            refine tkn 10 (.pointer (some ⟨x, 1, none⟩)) rfl (by kernel_rfl) (fun _ _ _ h => h) (.inl ⟨by kernel_rfl, fun w _ => by go_simp⟩) hHeld ?_
            simp only [ly, Act.put]
            refine wpAnyH_ready (rs := [11]) (by kernel_rfl) (by simp) (AllReadyH.cons rfl (fun K hK => ?_) AllReadyH.nil)
            have hK' := hid hK
            clear hK
            rw [if_pos (by kernel_rfl)]
            simp only [ly1, ly2, ly3]
            have cx := hX19.out.cK 1 _ rfl
            have fx := hX19.out.frozen 1
            have hBx := hid (hB19.out.setCell (p := ⟨x, 1, none⟩) (by show w.heap.size ≤ x; have := hx'.out; omega) (.slice (some ⟨g8, 0, none⟩) (i + 1) cap8))
            go_simp
            obtain ⟨W20, hW⟩ : ∃ V, W19.setCell ⟨x, 1, none⟩ (.slice (some ⟨g8, 0, none⟩) (i + 1) cap8) = V := ⟨_, rfl⟩
            rw [hW] at hP19 hBx ⊢
            have hA20 := hid hP19.out
            have hB20 := hid hBx.out
            clear hW hX19 hP19 hBx hB19 cx fx
            refine hK'.out _ _ (by exact trivial) (fun hHeld => ?_)
            clear hK' K
            refine wpAnyH_done (by kernel_rfl) ?_ _
            go_wp2_with fail
            go_roundw
            case rel => exact ⟨i + 1, _, _, _, _, by have := hlt''.out; omega, by go_num, hA20.out, hB20.out⟩
            case measure => have := hlt''.out; simp [intOf]; omega
          · skip
            have hK' := hid hK
            clear hK
            rw [if_pos (by kernel_rfl)]
            simp only [ly1, ly2, ly3]
            refine wp_run' (.slice (some ⟨W16.heap.size, 0, none⟩) 64 64) (W16.alloc (.cells z64 5)) (by kernel_rfl) ?_
            obtain ⟨gz8, hgz⟩ : ∃ g, W16.heap.size = g := ⟨_, rfl⟩
            generalize hW : World.alloc _ _ = W17
            obtain ⟨hN, hb⟩ := new_at7 hW
            rw [hgz] at hN ⊢
            clear hW hgz
            have hA17 := hid (hA16.out.on hb)
            have hB17 := hid (bup hb hB16.out)
            have hZ17 := hid hN
            clear hb hA16 hB16 hN
            refine hK'.out _ _ (by exact trivial) (fun hHeld => ?_)
            clear hK' K
            refine wpAnyH_ready (rs := [4, 6]) (by kernel_rfl) (by simp) (AllReadyH.cons rfl (fun K hK => ?_) (AllReadyH.cons rfl (fun K hK => ?_) AllReadyH.nil))
            · skip
              have hK' := hid hK
              clear hK
              rw [if_pos (by kernel_rfl)]
              simp only [ly1, ly2, ly3]
              have cx := hA17.out.own.cK 1 _ rfl
              go_simp
              clear cx
              refine hK'.out _ _ (by exact trivial) (fun hHeld => ?_)
              clear hK' K
              refine wpAnyH_ready (rs := [6]) (by kernel_rfl) (by simp) (AllReadyH.cons rfl (fun K hK => ?_) AllReadyH.nil)
              have hK' := hid hK
              clear hK
              rw [if_pos (by kernel_rfl)]
              simp only [ly1, ly2, ly3]
              refine wp_conv 51 9 (.tmp 37) rfl (.slice (some ⟨gz8, 0, none⟩) 64 64) (.string z) _ rfl (by exact run_convert_block (P := Try.prog) (t := 5) (e := 5) 51 9 Try.underlying51 Try.underlying5 Try.underlying9 (g := gz8) (c := 64) (n := 64) (s := z) hz64.out.symm hZ17.out (by exact hzc.out)) ?_
              refine hK'.out _ _ (by exact trivial) (fun hHeld => ?_)
              clear hK' K
              refine wpAnyH_ready (rs := [7]) (by kernel_rfl) (by simp) (AllReadyH.cons rfl (fun K hK => ?_) AllReadyH.nil)
              have hK' := hid hK
              clear hK
              rw [if_pos (by kernel_rfl)]
              simp only [ly1, ly2, ly3]
              refine wp_run' (.slice (some ⟨W17.heap.size, 0, none⟩) 1 1) (W17.alloc (.cells #[.string z] 9)) (by kernel_rfl) ?_
              obtain ⟨gn8, hgn⟩ : ∃ g, W17.heap.size = g := ⟨_, rfl⟩
              generalize hW : World.alloc _ _ = W18
              obtain ⟨hN, hb⟩ := new_at7 hW
              rw [hgn] at hN ⊢
              clear hW hgn
              have hA18 := hid (hA17.out.on hb)
              have hB18 := hid (bup hb hB17.out)
              have hZ18 := hid (hZ17.out.below hb hZ17.out.lt)
              have hN18 := hid hN
              clear hb hA17 hB17 hZ17 hN
              refine hK'.out _ _ (by exact trivial) (fun hHeld => ?_)
              clear hK' K
              refine wpAnyH_ready (rs := [8]) (by kernel_rfl) (by simp) (AllReadyH.cons rfl (fun K hK => ?_) AllReadyH.nil)
              have hK' := hid hK
              clear hK
              rw [if_pos (by kernel_rfl)]
              simp only [ly1, ly2, ly3]
              refine wp_append_lies W18 (.tmp 36) (.tmp 39) 50 rfl (x + 1) 9 it (.string ⟨#[]⟩) 1 16 Try.underlying50 hit'.out hitz'.out hits'.out hitb'.out rfl (by decide) (.slice A2 i c2) i (strs (List.replicate i z)) rfl hA18.out.r2 ⟨gn8, 0, none⟩ 1 1 [.string z] rfl rfl (by intro j u hu; match j, hu with | 0, hu => (obtain rfl := Option.some.inj hu; exact hN18.out.cK 0 _ rfl)) (by intro u hu; rw [List.mem_singleton.1 hu]; rfl) (by decide) (by unfold maxLen; have := hi1.out; omega) (by have := hi1.out; omega) (by have := hA18.out.own.lt; omega) _ rfl ?_
              intro g8 cap8 W19 ho hg hl _
              have hp := hA18.out.push2 ho hg hl
              have hX19 := hid hp.1
              have hP19 := hid hp.2
              have hB19 := hid (hB18.out.grown hg hB18.out.size (fun k e => by have h1 := (hA18.out.r2.lt k e).1; have h2 := hx'.out; omega))
              clear hp ho hg hl hA18 hB18 hZ18 hN18
              refine hK'.out _ _ (by exact trivial) (fun hHeld => ?_)
              clear hK' K
              refine tkn 9 (.pointer (some ⟨x, 0, none⟩)) rfl (by kernel_rfl) (fun _ _ _ h => h) (.inl ⟨by kernel_rfl, fun w _ => by go_simp⟩) hHeld ?_
              simp only [ly, Act.put]
              refine tkn 10 (.pointer (some ⟨x, 1, none⟩)) rfl (by kernel_rfl) (fun _ _ _ h => h) (.inl ⟨by kernel_rfl, fun w _ => by go_simp⟩) hHeld ?_
              simp only [ly, Act.put]
              refine wpAnyH_ready (rs := [11]) (by kernel_rfl) (by simp) (AllReadyH.cons rfl (fun K hK => ?_) AllReadyH.nil)
              have hK' := hid hK
              clear hK
              rw [if_pos (by kernel_rfl)]
              simp only [ly1, ly2, ly3]
              have cx := hX19.out.cK 1 _ rfl
              have fx := hX19.out.frozen 1
              have hBx := hid (hB19.out.setCell (p := ⟨x, 1, none⟩) (by show w.heap.size ≤ x; have := hx'.out; omega) (.slice (some ⟨g8, 0, none⟩) (i + 1) cap8))
              go_simp
              obtain ⟨W20, hW⟩ : ∃ V, W19.setCell ⟨x, 1, none⟩ (.slice (some ⟨g8, 0, none⟩) (i + 1) cap8) = V := ⟨_, rfl⟩
              rw [hW] at hP19 hBx ⊢
              have hA20 := hid hP19.out
              have hB20 := hid hBx.out
              clear hW hX19 hP19 hBx hB19 cx fx
              refine hK'.out _ _ (by exact trivial) (fun hHeld => ?_)
              clear hK' K
              refine wpAnyH_done (by kernel_rfl) ?_ _
              go_wp2_with fail
              go_roundw
              case rel => exact ⟨i + 1, _, _, _, _, by have := hlt''.out; omega, by go_num, hA20.out, hB20.out⟩
              case measure => have := hlt''.out; simp [intOf]; omega
            · skip
              have hK' := hid hK
              clear hK
              rw [if_pos (by kernel_rfl)]
              simp only [ly1, ly2, ly3]
              refine wp_conv 51 9 (.tmp 37) rfl (.slice (some ⟨gz8, 0, none⟩) 64 64) (.string z) _ rfl (by exact run_convert_block (P := Try.prog) (t := 5) (e := 5) 51 9 Try.underlying51 Try.underlying5 Try.underlying9 (g := gz8) (c := 64) (n := 64) (s := z) hz64.out.symm hZ17.out (by exact hzc.out)) ?_
              refine hK'.out _ _ (by exact trivial) (fun hHeld => ?_)
              clear hK' K
              refine wpAnyH_ready (rs := [4, 7]) (by kernel_rfl) (by simp) (AllReadyH.cons rfl (fun K hK => ?_) (AllReadyH.cons rfl (fun K hK => ?_) AllReadyH.nil))
              · skip
                have hK' := hid hK
                clear hK
                rw [if_pos (by kernel_rfl)]
                simp only [ly1, ly2, ly3]
                have cx := hA17.out.own.cK 1 _ rfl
                go_simp
                clear cx
                refine hK'.out _ _ (by exact trivial) (fun hHeld => ?_)
                clear hK' K
                refine wpAnyH_ready (rs := [7]) (by kernel_rfl) (by simp) (AllReadyH.cons rfl (fun K hK => ?_) AllReadyH.nil)
                have hK' := hid hK
                clear hK
                rw [if_pos (by kernel_rfl)]
                simp only [ly1, ly2, ly3]
                refine wp_run' (.slice (some ⟨W17.heap.size, 0, none⟩) 1 1) (W17.alloc (.cells #[.string z] 9)) (by kernel_rfl) ?_
                obtain ⟨gn8, hgn⟩ : ∃ g, W17.heap.size = g := ⟨_, rfl⟩
                generalize hW : World.alloc _ _ = W18
                obtain ⟨hN, hb⟩ := new_at7 hW
                rw [hgn] at hN ⊢
                clear hW hgn
                have hA18 := hid (hA17.out.on hb)
                have hB18 := hid (bup hb hB17.out)
                have hZ18 := hid (hZ17.out.below hb hZ17.out.lt)
                have hN18 := hid hN
                clear hb hA17 hB17 hZ17 hN
                refine hK'.out _ _ (by exact trivial) (fun hHeld => ?_)
                clear hK' K
                refine wpAnyH_ready (rs := [8]) (by kernel_rfl) (by simp) (AllReadyH.cons rfl (fun K hK => ?_) AllReadyH.nil)
                have hK' := hid hK
                clear hK
                rw [if_pos (by kernel_rfl)]
                simp only [ly1, ly2, ly3]
                refine wp_append_lies W18 (.tmp 36) (.tmp 39) 50 rfl (x + 1) 9 it (.string ⟨#[]⟩) 1 16 Try.underlying50 hit'.out hitz'.out hits'.out hitb'.out rfl (by decide) (.slice A2 i c2) i (strs (List.replicate i z)) rfl hA18.out.r2 ⟨gn8, 0, none⟩ 1 1 [.string z] rfl rfl (by intro j u hu; match j, hu with | 0, hu => (obtain rfl := Option.some.inj hu; exact hN18.out.cK 0 _ rfl)) (by intro u hu; rw [List.mem_singleton.1 hu]; rfl) (by decide) (by unfold maxLen; have := hi1.out; omega) (by have := hi1.out; omega) (by have := hA18.out.own.lt; omega) _ rfl ?_
                intro g8 cap8 W19 ho hg hl _
                have hp := hA18.out.push2 ho hg hl
                have hX19 := hid hp.1
                have hP19 := hid hp.2
                have hB19 := hid (hB18.out.grown hg hB18.out.size (fun k e => by have h1 := (hA18.out.r2.lt k e).1; have h2 := hx'.out; omega))
                clear hp ho hg hl hA18 hB18 hZ18 hN18
                refine hK'.out _ _ (by exact trivial) (fun hHeld => ?_)
                clear hK' K
                refine tkn 9 (.pointer (some ⟨x, 0, none⟩)) rfl (by kernel_rfl) (fun _ _ _ h => h) (.inl ⟨by kernel_rfl, fun w _ => by go_simp⟩) hHeld ?_
                simp only [ly, Act.put]
                refine tkn 10 (.pointer (some ⟨x, 1, none⟩)) rfl (by kernel_rfl) (fun _ _ _ h => h) (.inl ⟨by kernel_rfl, fun w _ => by go_simp⟩) hHeld ?_
                simp only [ly, Act.put]
                refine wpAnyH_ready (rs := [11]) (by kernel_rfl) (by simp) (AllReadyH.cons rfl (fun K hK => ?_) AllReadyH.nil)
                have hK' := hid hK
                clear hK
                rw [if_pos (by kernel_rfl)]
                simp only [ly1, ly2, ly3]
                have cx := hX19.out.cK 1 _ rfl
                have fx := hX19.out.frozen 1
                have hBx := hid (hB19.out.setCell (p := ⟨x, 1, none⟩) (by show w.heap.size ≤ x; have := hx'.out; omega) (.slice (some ⟨g8, 0, none⟩) (i + 1) cap8))
                go_simp
                obtain ⟨W20, hW⟩ : ∃ V, W19.setCell ⟨x, 1, none⟩ (.slice (some ⟨g8, 0, none⟩) (i + 1) cap8) = V := ⟨_, rfl⟩
                rw [hW] at hP19 hBx ⊢
                have hA20 := hid hP19.out
                have hB20 := hid hBx.out
                clear hW hX19 hP19 hBx hB19 cx fx
                refine hK'.out _ _ (by exact trivial) (fun hHeld => ?_)
                clear hK' K
                refine wpAnyH_done (by kernel_rfl) ?_ _
                go_wp2_with fail
                go_roundw
                case rel => exact ⟨i + 1, _, _, _, _, by have := hlt''.out; omega, by go_num, hA20.out, hB20.out⟩
                case measure => have := hlt''.out; simp [intOf]; omega
              · skip
                have hK' := hid hK
                clear hK
                rw [if_pos (by kernel_rfl)]
                simp only [ly1, ly2, ly3]
                refine wp_run' (.slice (some ⟨W17.heap.size, 0, none⟩) 1 1) (W17.alloc (.cells #[.string z] 9)) (by kernel_rfl) ?_
                obtain ⟨gn8, hgn⟩ : ∃ g, W17.heap.size = g := ⟨_, rfl⟩
                generalize hW : World.alloc _ _ = W18
                obtain ⟨hN, hb⟩ := new_at7 hW
                rw [hgn] at hN ⊢
                clear hW hgn
                have hA18 := hid (hA17.out.on hb)
                have hB18 := hid (bup hb hB17.out)
                have hZ18 := hid (hZ17.out.below hb hZ17.out.lt)
                have hN18 := hid hN
                clear hb hA17 hB17 hZ17 hN
                refine hK'.out _ _ (by exact trivial) (fun hHeld => ?_)
                clear hK' K
                refine wpAnyH_ready (rs := [4]) (by kernel_rfl) (by simp) (AllReadyH.cons rfl (fun K hK => ?_) AllReadyH.nil)
                have hK' := hid hK
                clear hK
                rw [if_pos (by kernel_rfl)]
                simp only [ly1, ly2, ly3]
                have cx := hA18.out.own.cK 1 _ rfl
                go_simp
                clear cx
                refine hK'.out _ _ (by exact trivial) (fun hHeld => ?_)
                clear hK' K
                refine wpAnyH_ready (rs := [8]) (by kernel_rfl) (by simp) (AllReadyH.cons rfl (fun K hK => ?_) AllReadyH.nil)
                have hK' := hid hK
                clear hK
                rw [if_pos (by kernel_rfl)]
                simp only [ly1, ly2, ly3]
                refine wp_append_lies W18 (.tmp 36) (.tmp 39) 50 rfl (x + 1) 9 it (.string ⟨#[]⟩) 1 16 Try.underlying50 hit'.out hitz'.out hits'.out hitb'.out rfl (by decide) (.slice A2 i c2) i (strs (List.replicate i z)) rfl hA18.out.r2 ⟨gn8, 0, none⟩ 1 1 [.string z] rfl rfl (by intro j u hu; match j, hu with | 0, hu => (obtain rfl := Option.some.inj hu; exact hN18.out.cK 0 _ rfl)) (by intro u hu; rw [List.mem_singleton.1 hu]; rfl) (by decide) (by unfold maxLen; have := hi1.out; omega) (by have := hi1.out; omega) (by have := hA18.out.own.lt; omega) _ rfl ?_
                intro g8 cap8 W19 ho hg hl _
                have hp := hA18.out.push2 ho hg hl
                have hX19 := hid hp.1
                have hP19 := hid hp.2
                have hB19 := hid (hB18.out.grown hg hB18.out.size (fun k e => by have h1 := (hA18.out.r2.lt k e).1; have h2 := hx'.out; omega))
                clear hp ho hg hl hA18 hB18 hZ18 hN18
                refine hK'.out _ _ (by exact trivial) (fun hHeld => ?_)
                clear hK' K
                refine tkn 9 (.pointer (some ⟨x, 0, none⟩)) rfl (by kernel_rfl) (fun _ _ _ h => h) (.inl ⟨by kernel_rfl, fun w _ => by go_simp⟩) hHeld ?_
                simp only [ly, Act.put]
                refine tkn 10 (.pointer (some ⟨x, 1, none⟩)) rfl (by kernel_rfl) (fun _ _ _ h => h) (.inl ⟨by kernel_rfl, fun w _ => by go_simp⟩) hHeld ?_
                simp only [ly, Act.put]
                refine wpAnyH_ready (rs := [11]) (by kernel_rfl) (by simp) (AllReadyH.cons rfl (fun K hK => ?_) AllReadyH.nil)
                have hK' := hid hK
                clear hK
                rw [if_pos (by kernel_rfl)]
                simp only [ly1, ly2, ly3]
                have cx := hX19.out.cK 1 _ rfl
                have fx := hX19.out.frozen 1
                have hBx := hid (hB19.out.setCell (p := ⟨x, 1, none⟩) (by show w.heap.size ≤ x; have := hx'.out; omega) (.slice (some ⟨g8, 0, none⟩) (i + 1) cap8))
                go_simp
                obtain ⟨W20, hW⟩ : ∃ V, W19.setCell ⟨x, 1, none⟩ (.slice (some ⟨g8, 0, none⟩) (i + 1) cap8) = V := ⟨_, rfl⟩
                rw [hW] at hP19 hBx ⊢
                have hA20 := hid hP19.out
                have hB20 := hid hBx.out
                clear hW hX19 hP19 hBx hB19 cx fx
                refine hK'.out _ _ (by exact trivial) (fun hHeld => ?_)
                clear hK' K
                refine wpAnyH_done (by kernel_rfl) ?_ _
                go_wp2_with fail
                go_roundw
                case rel => exact ⟨i + 1, _, _, _, _, by have := hlt''.out; omega, by go_num, hA20.out, hB20.out⟩
                case measure => have := hlt''.out; simp [intOf]; omega
        · skip
          have hK' := hid hK
          clear hK
          rw [if_pos (by kernel_rfl)]
          simp only [ly1, ly2, ly3]
          refine wp_conv 51 9 (.tmp 26) rfl (.slice (some ⟨gz7, 0, none⟩) 64 64) (.string z) _ rfl (by exact run_convert_block (P := Try.prog) (t := 5) (e := 5) 51 9 Try.underlying51 Try.underlying5 Try.underlying9 (g := gz7) (c := 64) (n := 64) (s := z) hz64.out.symm hZ12.out (by exact hzc.out)) ?_
          refine hK'.out _ _ (by exact trivial) (fun hHeld => ?_)
          clear hK' K
          refine wpAnyH_ready (rs := [4, 7]) (by kernel_rfl) (by simp) (AllReadyH.cons rfl (fun K hK => ?_) (AllReadyH.cons rfl (fun K hK => ?_) AllReadyH.nil))
          · skip
            have hK' := hid hK
            clear hK
            rw [if_pos (by kernel_rfl)]
            simp only [ly1, ly2, ly3]
            have cx := hA12.out.own.cK 0 _ rfl
            go_simp
            clear cx
            refine hK'.out _ _ (by exact trivial) (fun hHeld => ?_)
            clear hK' K
            refine wpAnyH_ready (rs := [7]) (by kernel_rfl) (by simp) (AllReadyH.cons rfl (fun K hK => ?_) AllReadyH.nil)
            have hK' := hid hK
            clear hK
            rw [if_pos (by kernel_rfl)]
            simp only [ly1, ly2, ly3]
            refine wp_run' (.slice (some ⟨W12.heap.size, 0, none⟩) 1 1) (W12.alloc (.cells #[.string z] 9)) (by kernel_rfl) ?_
            obtain ⟨gn7, hgn⟩ : ∃ g, W12.heap.size = g := ⟨_, rfl⟩
            generalize hW : World.alloc _ _ = W13
            obtain ⟨hN, hb⟩ := new_at7 hW
            rw [hgn] at hN ⊢
            clear hW hgn
            have hA13 := hid (hA12.out.on hb)
            have hB13 := hid (bup hb hB12.out)
            have hZ13 := hid (hZ12.out.below hb hZ12.out.lt)
            have hN13 := hid hN
            clear hb hA12 hB12 hZ12 hN
            refine hK'.out _ _ (by exact trivial) (fun hHeld => ?_)
            clear hK' K
            refine wpAnyH_ready (rs := [8]) (by kernel_rfl) (by simp) (AllReadyH.cons rfl (fun K hK => ?_) AllReadyH.nil)
            have hK' := hid hK
            clear hK
            rw [if_pos (by kernel_rfl)]
            simp only [ly1, ly2, ly3]
            refine wp_append_lies W13 (.tmp 25) (.tmp 28) 50 rfl (x + 1) 9 it (.string ⟨#[]⟩) 1 16 Try.underlying50 hit'.out hitz'.out hits'.out hitb'.out rfl (by decide) (.slice A1 i c1) i (strs (List.replicate i z)) rfl hA13.out.r1 ⟨gn7, 0, none⟩ 1 1 [.string z] rfl rfl (by intro j u hu; match j, hu with | 0, hu => (obtain rfl := Option.some.inj hu; exact hN13.out.cK 0 _ rfl)) (by intro u hu; rw [List.mem_singleton.1 hu]; rfl) (by decide) (by unfold maxLen; have := hi1.out; omega) (by have := hi1.out; omega) (by have := hA13.out.own.lt; omega) _ rfl ?_
            intro g7 cap7 W14 ho hg hl _
            have hp := hA13.out.push1 ho hg hl
            have hX14 := hid hp.1
            have hP14 := hid hp.2
            have hB14 := hid (hB13.out.grown hg hB13.out.size (fun k e => by have h1 := (hA13.out.r1.lt k e).1; have h2 := hx'.out; omega))
            clear hp ho hg hl hA13 hB13 hZ13 hN13
            refine hK'.out _ _ (by exact trivial) (fun hHeld => ?_)
            clear hK' K
            refine tkn 9 (.pointer (some ⟨x, 0, none⟩)) rfl (by kernel_rfl) (fun _ _ _ h => h) (.inl ⟨by kernel_rfl, fun w _ => by go_simp⟩) hHeld ?_
            simp only [ly, Act.put]
            refine tkn 10 (.pointer (some ⟨x, 0, none⟩)) rfl (by kernel_rfl) (fun _ _ _ h => h) (.inl ⟨by kernel_rfl, fun w _ => by go_simp⟩) hHeld ?_
            simp only [ly, Act.put]
            refine wpAnyH_ready (rs := [11]) (by kernel_rfl) (by simp) (AllReadyH.cons rfl (fun K hK => ?_) AllReadyH.nil)
            have hK' := hid hK
            clear hK
            rw [if_pos (by kernel_rfl)]
            simp only [ly1, ly2, ly3]
            have cx := hX14.out.cK 0 _ rfl
            have fx := hX14.out.frozen 0
            have hBx := hid (hB14.out.setCell (p := ⟨x, 0, none⟩) (by show w.heap.size ≤ x; have := hx'.out; omega) (.slice (some ⟨g7, 0, none⟩) (i + 1) cap7))
            go_simp
            obtain ⟨W15, hW⟩ : ∃ V, W14.setCell ⟨x, 0, none⟩ (.slice (some ⟨g7, 0, none⟩) (i + 1) cap7) = V := ⟨_, rfl⟩
            rw [hW] at hP14 hBx ⊢
            have hA15 := hid hP14.out
            have hB15 := hid hBx.out
            clear hW hX14 hP14 hBx hB14 cx fx
            refine hK'.out _ _ (by exact trivial) (fun hHeld => ?_)
            clear hK' K
            refine wpAnyH_done (by kernel_rfl) ?_ _
            go_wp2_with fail
            skip
            have hb : Below W15.heap.size W15 W15.drew := (Below.refl _ _).drew
            have hA16 := hid (hA15.out.on hb)
            have hB16 := hid (bup hb hB15.out)
            clear hb hA15 hB15
            refine wp_region_held_drew (S := fun _ => True) (by kernel_rfl) (by exact trivial) (fun hHeld => ?_)
            generalize W15.drew = W16 at *
            refine tkn 0 (.pointer (some ⟨x, 0, none⟩)) rfl (by kernel_rfl) (fun _ _ _ h => h) (yieldsIf_move _ rfl rfl rfl) hHeld ?_
            simp only [ly, Act.put]
            refine tkn 1 (.pointer (some ⟨x, 0, none⟩)) rfl (by kernel_rfl) (fun _ _ _ h => h) (yieldsIf_move _ rfl rfl rfl) hHeld ?_
            simp only [ly, Act.put]
            refine tkn 2 (.pointer (some ⟨x, 0, none⟩)) rfl (by kernel_rfl) (fun _ _ _ h => h) (.inl ⟨by kernel_rfl, fun w _ => by go_simp⟩) hHeld ?_
            simp only [ly, Act.put]
            refine tkn 3 (.pointer (some ⟨x, 1, none⟩)) rfl (by kernel_rfl) (fun _ _ _ h => h) (.inl ⟨by kernel_rfl, fun w _ => by go_simp⟩) hHeld ?_
            simp only [ly, Act.put]
            refine wpAnyH_ready (rs := [4, 5]) (by kernel_rfl) (by simp) (AllReadyH.cons rfl (fun K hK => ?_) (AllReadyH.cons rfl (fun K hK => ?_) AllReadyH.nil))
            · skip
              have hK' := hid hK
              clear hK
              rw [if_pos (by kernel_rfl)]
              simp only [ly1, ly2, ly3]
              have cx := hA16.out.own.cK 1 _ rfl
              go_simp
              clear cx
              refine hK'.out _ _ (by exact trivial) (fun hHeld => ?_)
              clear hK' K
              refine wpAnyH_ready (rs := [5]) (by kernel_rfl) (by simp) (AllReadyH.cons rfl (fun K hK => ?_) AllReadyH.nil)
              have hK' := hid hK
              clear hK
              rw [if_pos (by kernel_rfl)]
              simp only [ly1, ly2, ly3]
              refine wp_run' (.slice (some ⟨W16.heap.size, 0, none⟩) 64 64) (W16.alloc (.cells z64 5)) (by kernel_rfl) ?_
              obtain ⟨gz8, hgz⟩ : ∃ g, W16.heap.size = g := ⟨_, rfl⟩
              generalize hW : World.alloc _ _ = W17
              obtain ⟨hN, hb⟩ := new_at7 hW
              rw [hgz] at hN ⊢
              clear hW hgz
              have hA17 := hid (hA16.out.on hb)
              have hB17 := hid (bup hb hB16.out)
              have hZ17 := hid hN
              clear hb hA16 hB16 hN
              refine hK'.out _ _ (by exact trivial) (fun hHeld => ?_)
              clear hK' K
              refine wpAnyH_ready (rs := [6]) (by kernel_rfl) (by simp) (AllReadyH.cons rfl (fun K hK => ?_) AllReadyH.nil)
              have hK' := hid hK
              clear hK
              rw [if_pos (by kernel_rfl)]
              simp only [ly1, ly2, ly3]
              refine wp_conv 51 9 (.tmp 37) rfl (.slice (some ⟨gz8, 0, none⟩) 64 64) (.string z) _ rfl (by exact run_convert_block (P := Try.prog) (t := 5) (e := 5) 51 9 Try.underlying51 Try.underlying5 Try.underlying9 (g := gz8) (c := 64) (n := 64) (s := z) hz64.out.symm hZ17.out (by exact hzc.out)) ?_
              refine hK'.out _ _ (by exact trivial) (fun hHeld => ?_)
              clear hK' K
              refine wpAnyH_ready (rs := [7]) (by kernel_rfl) (by simp) (AllReadyH.cons rfl (fun K hK => ?_) AllReadyH.nil)
              have hK' := hid hK
              clear hK
              rw [if_pos (by kernel_rfl)]
              simp only [ly1, ly2, ly3]
              refine wp_run' (.slice (some ⟨W17.heap.size, 0, none⟩) 1 1) (W17.alloc (.cells #[.string z] 9)) (by kernel_rfl) ?_
              obtain ⟨gn8, hgn⟩ : ∃ g, W17.heap.size = g := ⟨_, rfl⟩
              generalize hW : World.alloc _ _ = W18
              obtain ⟨hN, hb⟩ := new_at7 hW
              rw [hgn] at hN ⊢
              clear hW hgn
              have hA18 := hid (hA17.out.on hb)
              have hB18 := hid (bup hb hB17.out)
              have hZ18 := hid (hZ17.out.below hb hZ17.out.lt)
              have hN18 := hid hN
              clear hb hA17 hB17 hZ17 hN
              refine hK'.out _ _ (by exact trivial) (fun hHeld => ?_)
              clear hK' K
              refine wpAnyH_ready (rs := [8]) (by kernel_rfl) (by simp) (AllReadyH.cons rfl (fun K hK => ?_) AllReadyH.nil)
              have hK' := hid hK
              clear hK
              rw [if_pos (by kernel_rfl)]
              simp only [ly1, ly2, ly3]
              refine wp_append_lies W18 (.tmp 36) (.tmp 39) 50 rfl (x + 1) 9 it (.string ⟨#[]⟩) 1 16 Try.underlying50 hit'.out hitz'.out hits'.out hitb'.out rfl (by decide) (.slice A2 i c2) i (strs (List.replicate i z)) rfl hA18.out.r2 ⟨gn8, 0, none⟩ 1 1 [.string z] rfl rfl (by intro j u hu; match j, hu with | 0, hu => (obtain rfl := Option.some.inj hu; exact hN18.out.cK 0 _ rfl)) (by intro u hu; rw [List.mem_singleton.1 hu]; rfl) (by decide) (by unfold maxLen; have := hi1.out; omega) (by have := hi1.out; omega) (by have := hA18.out.own.lt; omega) _ rfl ?_
              intro g8 cap8 W19 ho hg hl _
              have hp := hA18.out.push2 ho hg hl
              have hX19 := hid hp.1
              have hP19 := hid hp.2
              have hB19 := hid (hB18.out.grown hg hB18.out.size (fun k e => by have h1 := (hA18.out.r2.lt k e).1; have h2 := hx'.out; omega))
              clear hp ho hg hl hA18 hB18 hZ18 hN18
              refine hK'.out _ _ (by exact trivial) (fun hHeld => ?_)
              clear hK' K
              refine tkn 9 (.pointer (some ⟨x, 0, none⟩)) rfl (by kernel_rfl) (fun _ _ _ h => h) (.inl ⟨by kernel_rfl, fun w _ => by go_simp⟩) hHeld ?_
              simp only [ly, Act.put]
              refine tkn 10 (.pointer (some ⟨x, 1, none⟩)) rfl (by kernel_rfl) (fun _ _ _ h => h) (.inl ⟨by kernel_rfl, fun w _ => by go_simp⟩) hHeld ?_
              simp only [ly, Act.put]
              refine wpAnyH_ready (rs := [11]) (by kernel_rfl) (by simp) (AllReadyH.cons rfl (fun K hK => ?_) AllReadyH.nil)
              have hK' := hid hK
              clear hK
              rw [if_pos (by kernel_rfl)]
              simp only [ly1, ly2, ly3]
              have cx := hX19.out.cK 1 _ rfl
              have fx := hX19.out.frozen 1
              have hBx := hid (hB19.out.setCell (p := ⟨x, 1, none⟩) (by show w.heap.size ≤ x; have := hx'.out; omega) (.slice (some ⟨g8, 0, none⟩) (i + 1) cap8))
              go_simp
              obtain ⟨W20, hW⟩ : ∃ V, W19.setCell ⟨x, 1, none⟩ (.slice (some ⟨g8, 0, none⟩) (i + 1) cap8) = V := ⟨_, rfl⟩
              rw [hW] at hP19 hBx ⊢
              have hA20 := hid hP19.out
              have hB20 := hid hBx.out
              clear hW hX19 hP19 hBx hB19 cx fx
              refine hK'.out _ _ (by exact trivial) (fun hHeld => ?_)
              clear hK' K
              refine wpAnyH_done (by kernel_rfl) ?_ _
              go_wp2_with fail
              go_roundw
              case rel => exact ⟨i + 1, _, _, _, _, by have := hlt''.out; omega, by go_num, hA20.out, hB20.out⟩
              case measure => have := hlt''.out; simp [intOf]; omega
            · skip
              have hK' := hid hK
              clear hK
              rw [if_pos (by kernel_rfl)]
              simp only [ly1, ly2, ly3]
              refine wp_run' (.slice (some ⟨W16.heap.size, 0, none⟩) 64 64) (W16.alloc (.cells z64 5)) (by kernel_rfl) ?_
              obtain ⟨gz8, hgz⟩ : ∃ g, W16.heap.size = g := ⟨_, rfl⟩
              generalize hW : World.alloc _ _ = W17
              obtain ⟨hN, hb⟩ := new_at7 hW
              rw [hgz] at hN ⊢
              clear hW hgz
              have hA17 := hid (hA16.out.on hb)
              have hB17 := hid (bup hb hB16.out)
              have hZ17 := hid hN
              clear hb hA16 hB16 hN
              refine hK'.out _ _ (by exact trivial) (fun hHeld => ?_)
              clear hK' K
              refine wpAnyH_ready (rs := [4, 6]) (by kernel_rfl) (by simp) (AllReadyH.cons rfl (fun K hK => ?_) (AllReadyH.cons rfl (fun K hK => ?_) AllReadyH.nil))
              · skip
                have hK' := hid hK
                clear hK
                rw [if_pos (by kernel_rfl)]
                simp only [ly1, ly2, ly3]
                have cx := hA17.out.own.cK 1 _ rfl
                go_simp
                clear cx
                refine hK'.out _ _ (by exact trivial) (fun hHeld => ?_)
                clear hK' K
                refine wpAnyH_ready (rs := [6]) (by kernel_rfl) (by simp) (AllReadyH.cons rfl (fun K hK => ?_) AllReadyH.nil)
                have hK' := hid hK
                clear hK
                rw [if_pos (by kernel_rfl)]
                simp only [ly1, ly2, ly3]
                refine wp_conv 51 9 (.tmp 37) rfl (.slice (some ⟨gz8, 0, none⟩) 64 64) (.string z) _ rfl (by exact run_convert_block (P := Try.prog) (t := 5) (e := 5) 51 9 Try.underlying51 Try.underlying5 Try.underlying9 (g := gz8) (c := 64) (n := 64) (s := z) hz64.out.symm hZ17.out (by exact hzc.out)) ?_
                refine hK'.out _ _ (by exact trivial) (fun hHeld => ?_)
                clear hK' K
                refine wpAnyH_ready (rs := [7]) (by kernel_rfl) (by simp) (AllReadyH.cons rfl (fun K hK => ?_) AllReadyH.nil)
                have hK' := hid hK
                clear hK
                rw [if_pos (by kernel_rfl)]
                simp only [ly1, ly2, ly3]
                refine wp_run' (.slice (some ⟨W17.heap.size, 0, none⟩) 1 1) (W17.alloc (.cells #[.string z] 9)) (by kernel_rfl) ?_
                obtain ⟨gn8, hgn⟩ : ∃ g, W17.heap.size = g := ⟨_, rfl⟩
                generalize hW : World.alloc _ _ = W18
                obtain ⟨hN, hb⟩ := new_at7 hW
                rw [hgn] at hN ⊢
                clear hW hgn
                have hA18 := hid (hA17.out.on hb)
                have hB18 := hid (bup hb hB17.out)
                have hZ18 := hid (hZ17.out.below hb hZ17.out.lt)
                have hN18 := hid hN
                clear hb hA17 hB17 hZ17 hN
                refine hK'.out _ _ (by exact trivial) (fun hHeld => ?_)
                clear hK' K
                refine wpAnyH_ready (rs := [8]) (by kernel_rfl) (by simp) (AllReadyH.cons rfl (fun K hK => ?_) AllReadyH.nil)
                have hK' := hid hK
                clear hK
                rw [if_pos (by kernel_rfl)]
                simp only [ly1, ly2, ly3]
                refine wp_append_lies W18 (.tmp 36) (.tmp 39) 50 rfl (x + 1) 9 it (.string ⟨#[]⟩) 1 16 Try.underlying50 hit'.out hitz'.out hits'.out hitb'.out rfl (by decide) (.slice A2 i c2) i (strs (List.replicate i z)) rfl hA18.out.r2 ⟨gn8, 0, none⟩ 1 1 [.string z] rfl rfl (by intro j u hu; match j, hu with | 0, hu => (obtain rfl := Option.some.inj hu; exact hN18.out.cK 0 _ rfl)) (by intro u hu; rw [List.mem_singleton.1 hu]; rfl) (by decide) (by unfold maxLen; have := hi1.out; omega) (by have := hi1.out; omega) (by have := hA18.out.own.lt; omega) _ rfl ?_
                intro g8 cap8 W19 ho hg hl _
                have hp := hA18.out.push2 ho hg hl
                have hX19 := hid hp.1
                have hP19 := hid hp.2
                have hB19 := hid (hB18.out.grown hg hB18.out.size (fun k e => by have h1 := (hA18.out.r2.lt k e).1; have h2 := hx'.out; omega))
                clear hp ho hg hl hA18 hB18 hZ18 hN18
                refine hK'.out _ _ (by exact trivial) (fun hHeld => ?_)
                clear hK' K
                refine tkn 9 (.pointer (some ⟨x, 0, none⟩)) rfl (by kernel_rfl) (fun _ _ _ h => h) (.inl ⟨by kernel_rfl, fun w _ => by go_simp⟩) hHeld ?_
                simp only [ly, Act.put]
                refine tkn 10 (.pointer (some ⟨x, 1, none⟩)) rfl (by kernel_rfl) (fun _ _ _ h => h) (.inl ⟨by kernel_rfl, fun w _ => by go_simp⟩) hHeld ?_
                simp only [ly, Act.put]
                refine wpAnyH_ready (rs := [11]) (by kernel_rfl) (by simp) (AllReadyH.cons rfl (fun K hK => ?_) AllReadyH.nil)
                have hK' := hid hK
                clear hK
                rw [if_pos (by kernel_rfl)]
                simp only [ly1, ly2, ly3]
                have cx := hX19.out.cK 1 _ rfl
                have fx := hX19.out.frozen 1
                have hBx := hid (hB19.out.setCell (p := ⟨x, 1, none⟩) (by show w.heap.size ≤ x; have := hx'.out; omega) (.slice (some ⟨g8, 0, none⟩) (i + 1) cap8))
                go_simp
                obtain ⟨W20, hW⟩ : ∃ V, W19.setCell ⟨x, 1, none⟩ (.slice (some ⟨g8, 0, none⟩) (i + 1) cap8) = V := ⟨_, rfl⟩
                rw [hW] at hP19 hBx ⊢
                have hA20 := hid hP19.out
                have hB20 := hid hBx.out
                clear hW hX19 hP19 hBx hB19 cx fx
                refine hK'.out _ _ (by exact trivial) (fun hHeld => ?_)
                clear hK' K
                refine wpAnyH_done (by kernel_rfl) ?_ _
                go_wp2_with fail
                go_roundw
                case rel => exact ⟨i + 1, _, _, _, _, by have := hlt''.out; omega, by go_num, hA20.out, hB20.out⟩
                case measure => have := hlt''.out; simp [intOf]; omega
              · skip
                have hK' := hid hK
                clear hK
                rw [if_pos (by kernel_rfl)]
                simp only [ly1, ly2, ly3]
                refine wp_conv 51 9 (.tmp 37) rfl (.slice (some ⟨gz8, 0, none⟩) 64 64) (.string z) _ rfl (by exact run_convert_block (P := Try.prog) (t := 5) (e := 5) 51 9 Try.underlying51 Try.underlying5 Try.underlying9 (g := gz8) (c := 64) (n := 64) (s := z) hz64.out.symm hZ17.out (by exact hzc.out)) ?_
                refine hK'.out _ _ (by exact trivial) (fun hHeld => ?_)
                clear hK' K
                refine wpAnyH_ready (rs := [4, 7]) (by kernel_rfl) (by simp) (AllReadyH.cons rfl (fun K hK => ?_) (AllReadyH.cons rfl (fun K hK => ?_) AllReadyH.nil))
                · skip
                  have hK' := hid hK
                  clear hK
                  rw [if_pos (by kernel_rfl)]
                  simp only [ly1, ly2, ly3]
                  have cx := hA17.out.own.cK 1 _ rfl
                  go_simp
                  clear cx
                  refine hK'.out _ _ (by exact trivial) (fun hHeld => ?_)
                  clear hK' K
                  refine wpAnyH_ready (rs := [7]) (by kernel_rfl) (by simp) (AllReadyH.cons rfl (fun K hK => ?_) AllReadyH.nil)
                  have hK' := hid hK
                  clear hK
                  rw [if_pos (by kernel_rfl)]
                  simp only [ly1, ly2, ly3]
                  refine wp_run' (.slice (some ⟨W17.heap.size, 0, none⟩) 1 1) (W17.alloc (.cells #[.string z] 9)) (by kernel_rfl) ?_
                  obtain ⟨gn8, hgn⟩ : ∃ g, W17.heap.size = g := ⟨_, rfl⟩
                  generalize hW : World.alloc _ _ = W18
                  obtain ⟨hN, hb⟩ := new_at7 hW
                  rw [hgn] at hN ⊢
                  clear hW hgn
                  have hA18 := hid (hA17.out.on hb)
                  have hB18 := hid (bup hb hB17.out)
                  have hZ18 := hid (hZ17.out.below hb hZ17.out.lt)
                  have hN18 := hid hN
                  clear hb hA17 hB17 hZ17 hN
                  refine hK'.out _ _ (by exact trivial) (fun hHeld => ?_)
                  clear hK' K
                  refine wpAnyH_ready (rs := [8]) (by kernel_rfl) (by simp) (AllReadyH.cons rfl (fun K hK => ?_) AllReadyH.nil)
                  have hK' := hid hK
                  clear hK
                  rw [if_pos (by kernel_rfl)]
                  simp only [ly1, ly2, ly3]
                  refine wp_append_lies W18 (.tmp 36) (.tmp 39) 50 rfl (x + 1) 9 it (.string ⟨#[]⟩) 1 16 Try.underlying50 hit'.out hitz'.out hits'.out hitb'.out rfl (by decide) (.slice A2 i c2) i (strs (List.replicate i z)) rfl hA18.out.r2 ⟨gn8, 0, none⟩ 1 1 [.string z] rfl rfl (by intro j u hu; match j, hu with | 0, hu => (obtain rfl := Option.some.inj hu; exact hN18.out.cK 0 _ rfl)) (by intro u hu; rw [List.mem_singleton.1 hu]; rfl) (by decide) (by unfold maxLen; have := hi1.out; omega) (by have := hi1.out; omega) (by have := hA18.out.own.lt; omega) _ rfl ?_
                  intro g8 cap8 W19 ho hg hl _
                  have hp := hA18.out.push2 ho hg hl
                  have hX19 := hid hp.1
                  have hP19 := hid hp.2
                  have hB19 := hid (hB18.out.grown hg hB18.out.size (fun k e => by have h1 := (hA18.out.r2.lt k e).1; have h2 := hx'.out; omega))
                  clear hp ho hg hl hA18 hB18 hZ18 hN18
                  refine hK'.out _ _ (by exact trivial) (fun hHeld => ?_)
                  clear hK' K
                  refine tkn 9 (.pointer (some ⟨x, 0, none⟩)) rfl (by kernel_rfl) (fun _ _ _ h => h) (.inl ⟨by kernel_rfl, fun w _ => by go_simp⟩) hHeld ?_
                  simp only [ly, Act.put]
                  refine tkn 10 (.pointer (some ⟨x, 1, none⟩)) rfl (by kernel_rfl) (fun _ _ _ h => h) (.inl ⟨by kernel_rfl, fun w _ => by go_simp⟩) hHeld ?_
                  simp only [ly, Act.put]
                  refine wpAnyH_ready (rs := [11]) (by kernel_rfl) (by simp) (AllReadyH.cons rfl (fun K hK => ?_) AllReadyH.nil)
                  have hK' := hid hK
                  clear hK
                  rw [if_pos (by kernel_rfl)]
                  simp only [ly1, ly2, ly3]
                  have cx := hX19.out.cK 1 _ rfl
                  have fx := hX19.out.frozen 1
                  have hBx := hid (hB19.out.setCell (p := ⟨x, 1, none⟩) (by show w.heap.size ≤ x; have := hx'.out; omega) (.slice (some ⟨g8, 0, none⟩) (i + 1) cap8))
                  go_simp
                  obtain ⟨W20, hW⟩ : ∃ V, W19.setCell ⟨x, 1, none⟩ (.slice (some ⟨g8, 0, none⟩) (i + 1) cap8) = V := ⟨_, rfl⟩
                  rw [hW] at hP19 hBx ⊢
                  have hA20 := hid hP19.out
                  have hB20 := hid hBx.out
                  clear hW hX19 hP19 hBx hB19 cx fx
                  refine hK'.out _ _ (by exact trivial) (fun hHeld => ?_)
                  clear hK' K
                  refine wpAnyH_done (by kernel_rfl) ?_ _
                  go_wp2_with fail
                  go_roundw
                  case rel => exact ⟨i + 1, _, _, _, _, by have := hlt''.out; omega, by go_num, hA20.out, hB20.out⟩
                  case measure => have := hlt''.out; simp [intOf]; omega
                · skip
                  have hK' := hid hK
                  clear hK
                  rw [if_pos (by kernel_rfl)]
                  simp only [ly1, ly2, ly3]
                  refine wp_run' (.slice (some ⟨W17.heap.size, 0, none⟩) 1 1) (W17.alloc (.cells #[.string z] 9)) (by kernel_rfl) ?_
                  obtain ⟨gn8, hgn⟩ : ∃ g, W17.heap.size = g := ⟨_, rfl⟩
                  generalize hW : World.alloc _ _ = W18
                  obtain ⟨hN, hb⟩ := new_at7 hW
                  rw [hgn] at hN ⊢
                  clear hW hgn
                  have hA18 := hid (hA17.out.on hb)
                  have hB18 := hid (bup hb hB17.out)
                  have hZ18 := hid (hZ17.out.below hb hZ17.out.lt)
                  have hN18 := hid hN
                  clear hb hA17 hB17 hZ17 hN
                  refine hK'.out _ _ (by exact trivial) (fun hHeld => ?_)
                  clear hK' K
                  refine wpAnyH_ready (rs := [4]) (by kernel_rfl) (by simp) (AllReadyH.cons rfl (fun K hK => ?_) AllReadyH.nil)
                  have hK' := hid hK
                  clear hK
                  rw [if_pos (by kernel_rfl)]
                  simp only [ly1, ly2, ly3]
                  have cx := hA18.out.own.cK 1 _ rfl
                  go_simp
                  clear cx
                  refine hK'.out _ _ (by exact trivial) (fun hHeld => ?_)
                  clear hK' K
                  refine wpAnyH_ready (rs := [8]) (by kernel_rfl) (by simp) (AllReadyH.cons rfl (fun K hK => ?_) AllReadyH.nil)
                  have hK' := hid hK
                  clear hK
                  rw [if_pos (by kernel_rfl)]
                  simp only [ly1, ly2, ly3]
                  refine wp_append_lies W18 (.tmp 36) (.tmp 39) 50 rfl (x + 1) 9 it (.string ⟨#[]⟩) 1 16 Try.underlying50 hit'.out hitz'.out hits'.out hitb'.out rfl (by decide) (.slice A2 i c2) i (strs (List.replicate i z)) rfl hA18.out.r2 ⟨gn8, 0, none⟩ 1 1 [.string z] rfl rfl (by intro j u hu; match j, hu with | 0, hu => (obtain rfl := Option.some.inj hu; exact hN18.out.cK 0 _ rfl)) (by intro u hu; rw [List.mem_singleton.1 hu]; rfl) (by decide) (by unfold maxLen; have := hi1.out; omega) (by have := hi1.out; omega) (by have := hA18.out.own.lt; omega) _ rfl ?_
                  intro g8 cap8 W19 ho hg hl _
                  have hp := hA18.out.push2 ho hg hl
                  have hX19 := hid hp.1
                  have hP19 := hid hp.2
                  have hB19 := hid (hB18.out.grown hg hB18.out.size (fun k e => by have h1 := (hA18.out.r2.lt k e).1; have h2 := hx'.out; omega))
                  clear hp ho hg hl hA18 hB18 hZ18 hN18
                  refine hK'.out _ _ (by exact trivial) (fun hHeld => ?_)
                  clear hK' K
                  refine tkn 9 (.pointer (some ⟨x, 0, none⟩)) rfl (by kernel_rfl) (fun _ _ _ h => h) (.inl ⟨by kernel_rfl, fun w _ => by go_simp⟩) hHeld ?_
                  simp only [ly, Act.put]
                  refine tkn 10 (.pointer (some ⟨x, 1, none⟩)) rfl (by kernel_rfl) (fun _ _ _ h => h) (.inl ⟨by kernel_rfl, fun w _ => by go_simp⟩) hHeld ?_
                  simp only [ly, Act.put]
                  refine wpAnyH_ready (rs := [11]) (by kernel_rfl) (by simp) (AllReadyH.cons rfl (fun K hK => ?_) AllReadyH.nil)
                  have hK' := hid hK
                  clear hK
                  rw [if_pos (by kernel_rfl)]
                  simp only [ly1, ly2, ly3]
                  have cx := hX19.out.cK 1 _ rfl
                  have fx := hX19.out.frozen 1
                  have hBx := hid (hB19.out.setCell (p := ⟨x, 1, none⟩) (by show w.heap.size ≤ x; have := hx'.out; omega) (.slice (some ⟨g8, 0, none⟩) (i + 1) cap8))
                  go_simp
                  obtain ⟨W20, hW⟩ : ∃ V, W19.setCell ⟨x, 1, none⟩ (.slice (some ⟨g8, 0, none⟩) (i + 1) cap8) = V := ⟨_, rfl⟩
                  rw [hW] at hP19 hBx ⊢
                  have hA20 := hid hP19.out
                  have hB20 := hid hBx.out
                  clear hW hX19 hP19 hBx hB19 cx fx
                  refine hK'.out _ _ (by exact trivial) (fun hHeld => ?_)
                  clear hK' K
                  refine wpAnyH_done (by kernel_rfl) ?_ _
                  go_wp2_with fail
                  go_roundw
                  case rel => exact ⟨i + 1, _, _, _, _, by have := hlt''.out; omega, by go_num, hA20.out, hB20.out⟩
                  case measure => have := hlt''.out; simp [intOf]; omega
          · skip
            have hK' := hid hK
            clear hK
            rw [if_pos (by kernel_rfl)]
            simp only [ly1, ly2, ly3]
            refine wp_run' (.slice (some ⟨W12.heap.size, 0, none⟩) 1 1) (W12.alloc (.cells #[.string z] 9)) (by kernel_rfl) ?_
            obtain ⟨gn7, hgn⟩ : ∃ g, W12.heap.size = g := ⟨_, rfl⟩
            generalize hW : World.alloc _ _ = W13
            obtain ⟨hN, hb⟩ := new_at7 hW
            rw [hgn] at hN ⊢
            clear hW hgn
            have hA13 := hid (hA12.out.on hb)
            have hB13 := hid (bup hb hB12.out)
            have hZ13 := hid (hZ12.out.below hb hZ12.out.lt)
            have hN13 := hid hN
            clear hb hA12 hB12 hZ12 hN
            refine hK'.out _ _ (by exact trivial) (fun hHeld => ?_)
            clear hK' K
            refine wpAnyH_ready (rs := [4]) (by kernel_rfl) (by simp) (AllReadyH.cons rfl (fun K hK => ?_) AllReadyH.nil)
            have hK' := hid hK
            clear hK
            rw [if_pos (by kernel_rfl)]
            simp only [ly1, ly2, ly3]
            have cx := hA13.out.own.cK 0 _ rfl
            go_simp
            clear cx
            refine hK'.out _ _ (by exact trivial) (fun hHeld => ?_)
            clear hK' K
            refine wpAnyH_ready (rs := [8]) (by kernel_rfl) (by simp) (AllReadyH.cons rfl (fun K hK => ?_) AllReadyH.nil)
            have hK' := hid hK
            clear hK
            rw [if_pos (by kernel_rfl)]
            simp only [ly1, ly2, ly3]
            refine wp_append_lies W13 (.tmp 25) (.tmp 28) 50 rfl (x + 1) 9 it (.string ⟨#[]⟩) 1 16 Try.underlying50 hit'.out hitz'.out hits'.out hitb'.out rfl (by decide) (.slice A1 i c1) i (strs (List.replicate i z)) rfl hA13.out.r1 ⟨gn7, 0, none⟩ 1 1 [.string z] rfl rfl (by intro j u hu; match j, hu with | 0, hu => (obtain rfl := Option.some.inj hu; exact hN13.out.cK 0 _ rfl)) (by intro u hu; rw [List.mem_singleton.1 hu]; rfl) (by decide) (by unfold maxLen; have := hi1.out; omega) (by have := hi1.out; omega) (by have := hA13.out.own.lt; omega) _ rfl ?_
            intro g7 cap7 W14 ho hg hl _
            have hp := hA13.out.push1 ho hg hl
            have hX14 := hid hp.1
            have hP14 := hid hp.2
            have hB14 := hid (hB13.out.grown hg hB13.out.size (fun k e => by have h1 := (hA13.out.r1.lt k e).1; have h2 := hx'.out; omega))
            clear hp ho hg hl hA13 hB13 hZ13 hN13
            refine hK'.out _ _ (by exact trivial) (fun hHeld => ?_)
            clear hK' K
            refine tkn 9 (.pointer (some ⟨x, 0, none⟩)) rfl (by kernel_rfl) (fun _ _ _ h => h) (.inl ⟨by kernel_rfl, fun w _ => by go_simp⟩) hHeld ?_
            simp only [ly, Act.put]
            refine tkn 10 (.pointer (some ⟨x, 0, none⟩)) rfl (by kernel_rfl) (fun _ _ _ h => h) (.inl ⟨by kernel_rfl, fun w _ => by go_simp⟩) hHeld ?_
            simp only [ly, Act.put]
            refine wpAnyH_ready (rs := [11]) (by kernel_rfl) (by simp) (AllReadyH.cons rfl (fun K hK => ?_) AllReadyH.nil)
            have hK' := hid hK
            clear hK
            rw [if_pos (by kernel_rfl)]
            simp only [ly1, ly2, ly3]
            have cx := hX14.out.cK 0 _ rfl
            have fx := hX14.out.frozen 0
            have hBx := hid (hB14.out.setCell (p := ⟨x, 0, none⟩) (by show w.heap.size ≤ x; have := hx'.out; omega) (.slice (some ⟨g7, 0, none⟩) (i + 1) cap7))
            go_simp
            obtain ⟨W15, hW⟩ : ∃ V, W14.setCell ⟨x, 0, none⟩ (.slice (some ⟨g7, 0, none⟩) (i + 1) cap7) = V := ⟨_, rfl⟩
            rw [hW] at hP14 hBx ⊢
            have hA15 := hid hP14.out
            have hB15 := hid hBx.out
            clear hW hX14 hP14 hBx hB14 cx fx
            refine hK'.out _ _ (by exact trivial) (fun hHeld => ?_)
            clear hK' K
            refine wpAnyH_done (by kernel_rfl) ?_ _
            go_wp2_with fail
            skip
            have hb : Below W15.heap.size W15 W15.drew := (Below.refl _ _).drew
            have hA16 := hid (hA15.out.on hb)
            have hB16 := hid (bup hb hB15.out)
            clear hb hA15 hB15
            refine wp_region_held_drew (S := fun _ => True) (by kernel_rfl) (by exact trivial) (fun hHeld => ?_)
            generalize W15.drew = W16 at *
            refine tkn 0 (.pointer (some ⟨x, 0, none⟩)) rfl (by kernel_rfl) (fun _ _ _ h => h) (yieldsIf_move _ rfl rfl rfl) hHeld ?_
            simp only [ly, Act.put]
            refine tkn 1 (.pointer (some ⟨x, 0, none⟩)) rfl (by kernel_rfl) (fun _ _ _ h => h) (yieldsIf_move _ rfl rfl rfl) hHeld ?_
            simp only [ly, Act.put]
            refine tkn 2 (.pointer (some ⟨x, 0, none⟩)) rfl (by kernel_rfl) (fun _ _ _ h => h) (.inl ⟨by kernel_rfl, fun w _ => by go_simp⟩) hHeld ?_
            simp only [ly, Act.put]
            refine tkn 3 (.pointer (some ⟨x, 1, none⟩)) rfl (by kernel_rfl) (fun _ _ _ h => h) (.inl ⟨by kernel_rfl, fun w _ => by go_simp⟩) hHeld ?_
            simp only [ly, Act.put]
            refine wpAnyH_ready (rs := [4, 5]) (by kernel_rfl) (by simp) (AllReadyH.cons rfl (fun K hK => ?_) (AllReadyH.cons rfl (fun K hK => ?_) AllReadyH.nil))
            · skip
              have hK' := hid hK
              clear hK
              rw [if_pos (by kernel_rfl)]
              simp only [ly1, ly2, ly3]
              have cx := hA16.out.own.cK 1 _ rfl
              go_simp
              clear cx
              refine hK'.out _ _ (by exact trivial) (fun hHeld => ?_)
              clear hK' K
              refine wpAnyH_ready (rs := [5]) (by kernel_rfl) (by simp) (AllReadyH.cons rfl (fun K hK => ?_) AllReadyH.nil)
              have hK' := hid hK
              clear hK
              rw [if_pos (by kernel_rfl)]
              simp only [ly1, ly2, ly3]
              refine wp_run' (.slice (some ⟨W16.heap.size, 0, none⟩) 64 64) (W16.alloc (.cells z64 5)) (by kernel_rfl) ?_
              obtain ⟨gz8, hgz⟩ : ∃ g, W16.heap.size = g := ⟨_, rfl⟩
              generalize hW : World.alloc _ _ = W17
              obtain ⟨hN, hb⟩ := new_at7 hW
              rw [hgz] at hN ⊢
              clear hW hgz
              have hA17 := hid (hA16.out.on hb)
              have hB17 := hid (bup hb hB16.out)
              have hZ17 := hid hN
              clear hb hA16 hB16 hN
              refine hK'.out _ _ (by exact trivial) (fun hHeld => ?_)
              clear hK' K
              refine wpAnyH_ready (rs := [6]) (by kernel_rfl) (by simp) (AllReadyH.cons rfl (fun K hK => ?_) AllReadyH.nil)
              have hK' := hid hK
              clear hK
              rw [if_pos (by kernel_rfl)]
              simp only [ly1, ly2, ly3]
              refine wp_conv 51 9 (.tmp 37) rfl (.slice (some ⟨gz8, 0, none⟩) 64 64) (.string z) _ rfl (by exact run_convert_block (P := Try.prog) (t := 5) (e := 5) 51 9 Try.underlying51 Try.underlying5 Try.underlying9 (g := gz8) (c := 64) (n := 64) (s := z) hz64.out.symm hZ17.out (by exact hzc.out)) ?_
              refine hK'.out _ _ (by exact trivial) (fun hHeld => ?_)
              clear hK' K
              refine wpAnyH_ready (rs := [7]) (by kernel_rfl) (by simp) (AllReadyH.cons rfl (fun K hK => ?_) AllReadyH.nil)
              have hK' := hid hK
              clear hK
              rw [if_pos (by kernel_rfl)]
              simp only [ly1, ly2, ly3]
              refine wp_run' (.slice (some ⟨W17.heap.size, 0, none⟩) 1 1) (W17.alloc (.cells #[.string z] 9)) (by kernel_rfl) ?_
              obtain ⟨gn8, hgn⟩ : ∃ g, W17.heap.size = g := ⟨_, rfl⟩
              generalize hW : World.alloc _ _ = W18
              obtain ⟨hN, hb⟩ := new_at7 hW
              rw [hgn] at hN ⊢
              clear hW hgn
              have hA18 := hid (hA17.out.on hb)
              have hB18 := hid (bup hb hB17.out)
              have hZ18 := hid (hZ17.out.below hb hZ17.out.lt)
              have hN18 := hid hN
              clear hb hA17 hB17 hZ17 hN
              refine hK'.out _ _ (by exact trivial) (fun hHeld => ?_)
              clear hK' K
              refine wpAnyH_ready (rs := [8]) (by kernel_rfl) (by simp) (AllReadyH.cons rfl (fun K hK => ?_) AllReadyH.nil)
              have hK' := hid hK
              clear hK
              rw [if_pos (by kernel_rfl)]
              simp only [ly1, ly2, ly3]
              refine wp_append_lies W18 (.tmp 36) (.tmp 39) 50 rfl (x + 1) 9 it (.string ⟨#[]⟩) 1 16 Try.underlying50 hit'.out hitz'.out hits'.out hitb'.out rfl (by decide) (.slice A2 i c2) i (strs (List.replicate i z)) rfl hA18.out.r2 ⟨gn8, 0, none⟩ 1 1 [.string z] rfl rfl (by intro j u hu; match j, hu with | 0, hu => (obtain rfl := Option.some.inj hu; exact hN18.out.cK 0 _ rfl)) (by intro u hu; rw [List.mem_singleton.1 hu]; rfl) (by decide) (by unfold maxLen; have := hi1.out; omega) (by have := hi1.out; omega) (by have := hA18.out.own.lt; omega) _ rfl ?_
              intro g8 cap8 W19 ho hg hl _
              have hp := hA18.out.push2 ho hg hl
              have hX19 := hid hp.1
              have hP19 := hid hp.2
              have hB19 := hid (hB18.out.grown hg hB18.out.size (fun k e => by have h1 := (hA18.out.r2.lt k e).1; have h2 := hx'.out; omega))
              clear hp ho hg hl hA18 hB18 hZ18 hN18
              refine hK'.out _ _ (by exact trivial) (fun hHeld => ?_)
              clear hK' K
              refine tkn 9 (.pointer (some ⟨x, 0, none⟩)) rfl (by kernel_rfl) (fun _ _ _ h => h) (.inl ⟨by kernel_rfl, fun w _ => by go_simp⟩) hHeld ?_
              simp only [ly, Act.put]
              refine tkn 10 (.pointer (some ⟨x, 1, none⟩)) rfl (by kernel_rfl) (fun _ _ _ h => h) (.inl ⟨by kernel_rfl, fun w _ => by go_simp⟩) hHeld ?_
              simp only [ly, Act.put]
              refine wpAnyH_ready (rs := [11]) (by kernel_rfl) (by simp) (AllReadyH.cons rfl (fun K hK => ?_) AllReadyH.nil)
              have hK' := hid hK
              clear hK
              rw [if_pos (by kernel_rfl)]
              simp only [ly1, ly2, ly3]
              have cx := hX19.out.cK 1 _ rfl
              have fx := hX19.out.frozen 1
              have hBx := hid (hB19.out.setCell (p := ⟨x, 1, none⟩) (by show w.heap.size ≤ x; have := hx'.out; omega) (.slice (some ⟨g8, 0, none⟩) (i + 1) cap8))
              go_simp
              obtain ⟨W20, hW⟩ : ∃ V, W19.setCell ⟨x, 1, none⟩ (.slice (some ⟨g8, 0, none⟩) (i + 1) cap8) = V := ⟨_, rfl⟩
              rw [hW] at hP19 hBx ⊢
              have hA20 := hid hP19.out
              have hB20 := hid hBx.out
              clear hW hX19 hP19 hBx hB19 cx fx
              refine hK'.out _ _ (by exact trivial) (fun hHeld => ?_)
              clear hK' K
              refine wpAnyH_done (by kernel_rfl) ?_ _
              go_wp2_with fail
              go_roundw
              case rel => exact ⟨i + 1, _, _, _, _, by have := hlt''.out; omega, by go_num, hA20.out, hB20.out⟩
              case measure => have := hlt''.out; simp [intOf]; omega
            · skip
              have hK' := hid hK
              clear hK
              rw [if_pos (by kernel_rfl)]
              simp only [ly1, ly2, ly3]
              refine wp_run' (.slice (some ⟨W16.heap.size, 0, none⟩) 64 64) (W16.alloc (.cells z64 5)) (by kernel_rfl) ?_
              obtain ⟨gz8, hgz⟩ : ∃ g, W16.heap.size = g := ⟨_, rfl⟩
              generalize hW : World.alloc _ _ = W17
              obtain ⟨hN, hb⟩ := new_at7 hW
              rw [hgz] at hN ⊢
              clear hW hgz
              have hA17 := hid (hA16.out.on hb)
              have hB17 := hid (bup hb hB16.out)
              have hZ17 := hid hN
              clear hb hA16 hB16 hN
              refine hK'.out _ _ (by exact trivial) (fun hHeld => ?_)
              clear hK' K
              refine wpAnyH_ready (rs := [4, 6]) (by kernel_rfl) (by simp) (AllReadyH.cons rfl (fun K hK => ?_) (AllReadyH.cons rfl (fun K hK => ?_) AllReadyH.nil))
              · skip
                have hK' := hid hK
                clear hK
                rw [if_pos (by kernel_rfl)]
                simp only [ly1, ly2, ly3]
                have cx := hA17.out.own.cK 1 _ rfl
                go_simp
                clear cx
                refine hK'.out _ _ (by exact trivial) (fun hHeld => ?_)
                clear hK' K
                refine wpAnyH_ready (rs := [6]) (by kernel_rfl) (by simp) (AllReadyH.cons rfl (fun K hK => ?_) AllReadyH.nil)
                have hK' := hid hK
                clear hK
                rw [if_pos (by kernel_rfl)]
                simp only [ly1, ly2, ly3]
                refine wp_conv 51 9 (.tmp 37) rfl (.slice (some ⟨gz8, 0, none⟩) 64 64) (.string z) _ rfl (by exact run_convert_block (P := Try.prog) (t := 5) (e := 5) 51 9 Try.underlying51 Try.underlying5 Try.underlying9 (g := gz8) (c := 64) (n := 64) (s := z) hz64.out.symm hZ17.out (by exact hzc.out)) ?_
                refine hK'.out _ _ (by exact trivial) (fun hHeld => ?_)
                clear hK' K
                refine wpAnyH_ready (rs := [7]) (by kernel_rfl) (by simp) (AllReadyH.cons rfl (fun K hK => ?_) AllReadyH.nil)
                have hK' := hid hK
                clear hK
                rw [if_pos (by kernel_rfl)]
                simp only [ly1, ly2, ly3]
                refine wp_run' (.slice (some ⟨W17.heap.size, 0, none⟩) 1 1) (W17.alloc (.cells #[.string z] 9)) (by kernel_rfl) ?_
                obtain ⟨gn8, hgn⟩ : ∃ g, W17.heap.size = g := ⟨_, rfl⟩
                generalize hW : World.alloc _ _ = W18
                obtain ⟨hN, hb⟩ := new_at7 hW
                rw [hgn] at hN ⊢
                clear hW hgn
                have hA18 := hid (hA17.out.on hb)
                have hB18 := hid (bup hb hB17.out)
                have hZ18 := hid (hZ17.out.below hb hZ17.out.lt)
                have hN18 := hid hN
                clear hb hA17 hB17 hZ17 hN
                refine hK'.out _ _ (by exact trivial) (fun hHeld => ?_)
                clear hK' K
                refine wpAnyH_ready (rs := [8]) (by kernel_rfl) (by simp) (AllReadyH.cons rfl (fun K hK => ?_) AllReadyH.nil)
                have hK' := hid hK
                clear hK
                rw [if_pos (by kernel_rfl)]
                simp only [ly1, ly2, ly3]
                refine wp_append_lies W18 (.tmp 36) (.tmp 39) 50 rfl (x + 1) 9 it (.string ⟨#[]⟩) 1 16 Try.underlying50 hit'.out hitz'.out hits'.out hitb'.out rfl (by decide) (.slice A2 i c2) i (strs (List.replicate i z)) rfl hA18.out.r2 ⟨gn8, 0, none⟩ 1 1 [.string z] rfl rfl (by intro j u hu; match j, hu with | 0, hu => (obtain rfl := Option.some.inj hu; exact hN18.out.cK 0 _ rfl)) (by intro u hu; rw [List.mem_singleton.1 hu]; rfl) (by decide) (by unfold maxLen; have := hi1.out; omega) (by have := hi1.out; omega) (by have := hA18.out.own.lt; omega) _ rfl ?_
                intro g8 cap8 W19 ho hg hl _
                have hp := hA18.out.push2 ho hg hl
                have hX19 := hid hp.1
                have hP19 := hid hp.2
                have hB19 := hid (hB18.out.grown hg hB18.out.size (fun k e => by have h1 := (hA18.out.r2.lt k e).1; have h2 := hx'.out; omega))
                clear hp ho hg hl hA18 hB18 hZ18 hN18
                refine hK'.out _ _ (by exact trivial) (fun hHeld => ?_)
                clear hK' K
                refine tkn 9 (.pointer (some ⟨x, 0, none⟩)) rfl (by kernel_rfl) (fun _ _ _ h => h) (.inl ⟨by kernel_rfl, fun w _ => by go_simp⟩) hHeld ?_
                simp only [ly, Act.put]
                refine tkn 10 (.pointer (some ⟨x, 1, none⟩)) rfl (by kernel_rfl) (fun _ _ _ h => h) (.inl ⟨by kernel_rfl, fun w _ => by go_simp⟩) hHeld ?_
                simp only [ly, Act.put]
                refine wpAnyH_ready (rs := [11]) (by kernel_rfl) (by simp) (AllReadyH.cons rfl (fun K hK => ?_) AllReadyH.nil)
                have hK' := hid hK
                clear hK
                rw [if_pos (by kernel_rfl)]
                simp only [ly1, ly2, ly3]
                have cx := hX19.out.cK 1 _ rfl
                have fx := hX19.out.frozen 1
                have hBx := hid (hB19.out.setCell (p := ⟨x, 1, none⟩) (by show w.heap.size ≤ x; have := hx'.out; omega) (.slice (some ⟨g8, 0, none⟩) (i + 1) cap8))
                go_simp
                obtain ⟨W20, hW⟩ : ∃ V, W19.setCell ⟨x, 1, none⟩ (.slice (some ⟨g8, 0, none⟩) (i + 1) cap8) = V := ⟨_, rfl⟩
                rw [hW] at hP19 hBx ⊢
                have hA20 := hid hP19.out
                have hB20 := hid hBx.out
                clear hW hX19 hP19 hBx hB19 cx fx
                refine hK'.out _ _ (by exact trivial) (fun hHeld => ?_)
                clear hK' K
                refine wpAnyH_done (by kernel_rfl) ?_ _
                go_wp2_with fail
                go_roundw
                case rel => exact ⟨i + 1, _, _, _, _, by have := hlt''.out; omega, by go_num, hA20.out, hB20.out⟩
                case measure => have := hlt''.out; simp [intOf]; omega
              · skip
                have hK' := hid hK
                clear hK
                rw [if_pos (by kernel_rfl)]
                simp only [ly1, ly2, ly3]
                refine wp_conv 51 9 (.tmp 37) rfl (.slice (some ⟨gz8, 0, none⟩) 64 64) (.string z) _ rfl (by exact run_convert_block (P := Try.prog) (t := 5) (e := 5) 51 9 Try.underlying51 Try.underlying5 Try.underlying9 (g := gz8) (c := 64) (n := 64) (s := z) hz64.out.symm hZ17.out (by exact hzc.out)) ?_
                refine hK'.out _ _ (by exact trivial) (fun hHeld => ?_)
                clear hK' K
                refine wpAnyH_ready (rs := [4, 7]) (by kernel_rfl) (by simp) (AllReadyH.cons rfl (fun K hK => ?_) (AllReadyH.cons rfl (fun K hK => ?_) AllReadyH.nil))
                · skip
                  have hK' := hid hK
                  clear hK
                  rw [if_pos (by kernel_rfl)]
                  simp only [ly1, ly2, ly3]
                  have cx := hA17.out.own.cK 1 _ rfl
                  go_simp
                  clear cx
                  refine hK'.out _ _ (by exact trivial) (fun hHeld => ?_)
                  clear hK' K
                  refine wpAnyH_ready (rs := [7]) (by kernel_rfl) (by simp) (AllReadyH.cons rfl (fun K hK => ?_) AllReadyH.nil)
                  have hK' := hid hK
                  clear hK
                  rw [if_pos (by kernel_rfl)]
                  simp only [ly1, ly2, ly3]
                  refine wp_run' (.slice (some ⟨W17.heap.size, 0, none⟩) 1 1) (W17.alloc (.cells #[.string z] 9)) (by kernel_rfl) ?_
                  obtain ⟨gn8, hgn⟩ : ∃ g, W17.heap.size = g := ⟨_, rfl⟩
                  generalize hW : World.alloc _ _ = W18
                  obtain ⟨hN, hb⟩ := new_at7 hW
                  rw [hgn] at hN ⊢
                  clear hW hgn
                  have hA18 := hid (hA17.out.on hb)
                  have hB18 := hid (bup hb hB17.out)
                  have hZ18 := hid (hZ17.out.below hb hZ17.out.lt)
                  have hN18 := hid hN
                  clear hb hA17 hB17 hZ17 hN
                  refine hK'.out _ _ (by exact trivial) (fun hHeld => ?_)
                  clear hK' K
                  refine wpAnyH_ready (rs := [8]) (by kernel_rfl) (by simp) (AllReadyH.cons rfl (fun K hK => ?_) AllReadyH.nil)
                  have hK' := hid hK
                  clear hK
                  rw [if_pos (by kernel_rfl)]
                  simp only [ly1, ly2, ly3]
                  refine wp_append_lies W18 (.tmp 36) (.tmp 39) 50 rfl (x + 1) 9 it (.string ⟨#[]⟩) 1 16 Try.underlying50 hit'.out hitz'.out hits'.out hitb'.out rfl (by decide) (.slice A2 i c2) i (strs (List.replicate i z)) rfl hA18.out.r2 ⟨gn8, 0, none⟩ 1 1 [.string z] rfl rfl (by intro j u hu; match j, hu with | 0, hu => (obtain rfl := Option.some.inj hu; exact hN18.out.cK 0 _ rfl)) (by intro u hu; rw [List.mem_singleton.1 hu]; rfl) (by decide) (by unfold maxLen; have := hi1.out; omega) (by have := hi1.out; omega) (by have := hA18.out.own.lt; omega) _ rfl ?_
                  intro g8 cap8 W19 ho hg hl _
                  have hp := hA18.out.push2 ho hg hl
                  have hX19 := hid hp.1
                  have hP19 := hid hp.2
                  have hB19 := hid (hB18.out.grown hg hB18.out.size (fun k e => by have h1 := (hA18.out.r2.lt k e).1; have h2 := hx'.out; omega))
                  clear hp ho hg hl hA18 hB18 hZ18 hN18
                  refine hK'.out _ _ (by exact trivial) (fun hHeld => ?_)
                  clear hK' K
                  refine tkn 9 (.pointer (some ⟨x, 0, none⟩)) rfl (by kernel_rfl) (fun _ _ _ h => h) (.inl ⟨by kernel_rfl, fun w _ => by go_simp⟩) hHeld ?_
                  simp only [ly, Act.put]
                  refine tkn 10 (.pointer (some ⟨x, 1, none⟩)) rfl (by kernel_rfl) (fun _ _ _ h => h) (.inl ⟨by kernel_rfl, fun w _ => by go_simp⟩) hHeld ?_
                  simp only [ly, Act.put]
                  refine wpAnyH_ready (rs := [11]) (by kernel_rfl) (by simp) (AllReadyH.cons rfl (fun K hK => ?_) AllReadyH.nil)
                  have hK' := hid hK
                  clear hK
                  rw [if_pos (by kernel_rfl)]
                  simp only [ly1, ly2, ly3]
                  have cx := hX19.out.cK 1 _ rfl
                  have fx := hX19.out.frozen 1
                  have hBx := hid (hB19.out.setCell (p := ⟨x, 1, none⟩) (by show w.heap.size ≤ x; have := hx'.out; omega) (.slice (some ⟨g8, 0, none⟩) (i + 1) cap8))
                  go_simp
                  obtain ⟨W20, hW⟩ : ∃ V, W19.setCell ⟨x, 1, none⟩ (.slice (some ⟨g8, 0, none⟩) (i + 1) cap8) = V := ⟨_, rfl⟩
                  rw [hW] at hP19 hBx ⊢
                  have hA20 := hid hP19.out
                  have hB20 := hid hBx.out
                  clear hW hX19 hP19 hBx hB19 cx fx
                  refine hK'.out _ _ (by exact trivial) (fun hHeld => ?_)
                  clear hK' K
                  refine wpAnyH_done (by kernel_rfl) ?_ _
                  go_wp2_with fail
                  go_roundw
                  case rel => exact ⟨i + 1, _, _, _, _, by have := hlt''.out; omega, by go_num, hA20.out, hB20.out⟩
                  case measure => have := hlt''.out; simp [intOf]; omega
                · skip
                  have hK' := hid hK
                  clear hK
                  rw [if_pos (by kernel_rfl)]
                  simp only [ly1, ly2, ly3]
                  refine wp_run' (.slice (some ⟨W17.heap.size, 0, none⟩) 1 1) (W17.alloc (.cells #[.string z] 9)) (by kernel_rfl) ?_
                  obtain ⟨gn8, hgn⟩ : ∃ g, W17.heap.size = g := ⟨_, rfl⟩
                  generalize hW : World.alloc _ _ = W18
                  obtain ⟨hN, hb⟩ := new_at7 hW
                  rw [hgn] at hN ⊢
                  clear hW hgn
                  have hA18 := hid (hA17.out.on hb)
                  have hB18 := hid (bup hb hB17.out)
                  have hZ18 := hid (hZ17.out.below hb hZ17.out.lt)
                  have hN18 := hid hN
                  clear hb hA17 hB17 hZ17 hN
                  refine hK'.out _ _ (by exact trivial) (fun hHeld => ?_)
                  clear hK' K
                  refine wpAnyH_ready (rs := [4]) (by kernel_rfl) (by simp) (AllReadyH.cons rfl (fun K hK => ?_) AllReadyH.nil)
                  have hK' := hid hK
                  clear hK
                  rw [if_pos (by kernel_rfl)]
                  simp only [ly1, ly2, ly3]
                  have cx := hA18.out.own.cK 1 _ rfl
                  go_simp
                  clear cx
                  refine hK'.out _ _ (by exact trivial) (fun hHeld => ?_)
                  clear hK' K
                  refine wpAnyH_ready (rs := [8]) (by kernel_rfl) (by simp) (AllReadyH.cons rfl (fun K hK => ?_) AllReadyH.nil)
                  have hK' := hid hK
                  clear hK
                  rw [if_pos (by kernel_rfl)]
                  simp only [ly1, ly2, ly3]
                  refine wp_append_lies W18 (.tmp 36) (.tmp 39) 50 rfl (x + 1) 9 it (.string ⟨#[]⟩) 1 16 Try.underlying50 hit'.out hitz'.out hits'.out hitb'.out rfl (by decide) (.slice A2 i c2) i (strs (List.replicate i z)) rfl hA18.out.r2 ⟨gn8, 0, none⟩ 1 1 [.string z] rfl rfl (by intro j u hu; match j, hu with | 0, hu => (obtain rfl := Option.some.inj hu; exact hN18.out.cK 0 _ rfl)) (by intro u hu; rw [List.mem_singleton.1 hu]; rfl) (by decide) (by unfold maxLen; have := hi1.out; omega) (by have := hi1.out; omega) (by have := hA18.out.own.lt; omega) _ rfl ?_
                  intro g8 cap8 W19 ho hg hl _
                  have hp := hA18.out.push2 ho hg hl
                  have hX19 := hid hp.1
                  have hP19 := hid hp.2
                  have hB19 := hid (hB18.out.grown hg hB18.out.size (fun k e => by have h1 := (hA18.out.r2.lt k e).1; have h2 := hx'.out; omega))
                  clear hp ho hg hl hA18 hB18 hZ18 hN18
                  refine hK'.out _ _ (by exact trivial) (fun hHeld => ?_)
                  clear hK' K
                  refine tkn 9 (.pointer (some ⟨x, 0, none⟩)) rfl (by kernel_rfl) (fun _ _ _ h => h) (.inl ⟨by kernel_rfl, fun w _ => by go_simp⟩) hHeld ?_
                  simp only [ly, Act.put]
                  refine tkn 10 (.pointer (some ⟨x, 1, none⟩)) rfl (by kernel_rfl) (fun _ _ _ h => h) (.inl ⟨by kernel_rfl, fun w _ => by go_simp⟩) hHeld ?_
                  simp only [ly, Act.put]
                  refine wpAnyH_ready (rs := [11]) (by kernel_rfl) (by simp) (AllReadyH.cons rfl (fun K hK => ?_) AllReadyH.nil)
                  have hK' := hid hK
                  clear hK
                  rw [if_pos (by kernel_rfl)]
                  simp only [ly1, ly2, ly3]
                  have cx := hX19.out.cK 1 _ rfl
                  have fx := hX19.out.frozen 1
                  have hBx := hid (hB19.out.setCell (p := ⟨x, 1, none⟩) (by show w.heap.size ≤ x; have := hx'.out; omega) (.slice (some ⟨g8, 0, none⟩) (i + 1) cap8))
                  go_simp
                  obtain ⟨W20, hW⟩ : ∃ V, W19.setCell ⟨x, 1, none⟩ (.slice (some ⟨g8, 0, none⟩) (i + 1) cap8) = V := ⟨_, rfl⟩
                  rw [hW] at hP19 hBx ⊢
                  have hA20 := hid hP19.out
                  have hB20 := hid hBx.out
                  clear hW hX19 hP19 hBx hB19 cx fx
                  refine hK'.out _ _ (by exact trivial) (fun hHeld => ?_)
                  clear hK' K
                  refine wpAnyH_done (by kernel_rfl) ?_ _
                  go_wp2_with fail
                  go_roundw
                  case rel => exact ⟨i + 1, _, _, _, _, by have := hlt''.out; omega, by go_num, hA20.out, hB20.out⟩
                  case measure => have := hlt''.out; simp [intOf]; omega
    · obtain rfl : i = n := by omega
      go_wp2_with fail
      go_ret2
      have hA := hA10.out
      obtain ⟨hown, hr1, hr2, hap, hfl, hgx⟩ := hA
      rcases hr1.2 with ⟨_, h0⟩ | ⟨g1, cap1, cur1, hv1, hb1, _⟩
      · omega
      · rcases hr2.2 with ⟨_, h0⟩ | ⟨g2, cap2, cur2, hv2, hb2, _⟩
        · omega
        · rw [hv1] at hr1 hap
          rw [hv2] at hr2 hap
          rw [hv1, hv2] at hown
          have hx1 := hx'.out
          have hg1 := hg3'.out
          refine ⟨g1, cap1, g2, cap2, congrArg (fun k : Nat => Ending.returned (.tuple #[.pointer (some ⟨k, 0, none⟩), .int .i64 0])) hx1.symm, ?_, hB10.out⟩
          rw [hx1, hg1]
          have hf := Dk.fine.new i
          show RDiskAt W10 g3 x g1 cap1 g2 cap2 g3 i (Dk.new i).xs (thnD i (Dk.new i)) (flD i (Dk.new i))
          rw [thnD_clean hf rfl, flD_clean rfl]
          have hxs : (Dk.new i).xs = List.replicate i z := by show List.replicate i (zeroS 64) = _; rw [hz'.out]
          rw [hxs]
          exact ⟨hown, row_less hr1 (by omega), row_less hr2 (by omega), hfl, List.length_replicate .., fun e => hap g1 rfl (by rw [e]; rfl), h2'.out, h1, by omega⟩


end Go.Proofs.Ytbclmkpigdeilaa
