/- Layer 16: path.Split. -/
import Derived.Test.YtapegklffglnoaaPthA
import Derived.Test.YtapegklffglnoaaRoundR
import Derived.Test.YtapegklffglnoaaYields
namespace Go.Proofs.Ytapegklffglnoaa
open Go.RowKit Go.Shelf
attribute [local go_sem] Oper.semAt_some

theorem info_string : (Try.prog.info? 9).map (fun i => (i.zero, i.size, i.bytes)) = some (some (.string ByteArray.empty), 1, 16) := by kernel_rfl

/-- What Split answers. -/
def SplitPost (s : ByteArray) (w : World) (e : Ending) (w' : World) : Prop :=
  ∃ A n c, e = .returned (.tuple #[.slice A n c, .int .i64 (splitE s)]) ∧ Texts w' w'.heap.size A n (splitB s) ∧ Below w.heap.size w w'

theorem split_bad_post {s : ByteArray} {w : World} {v : Value} (h : Pth.split s.data.toList = none) (hv : v = .tuple #[.slice none 0 0, .int .i64 1600]) {w' : World} (hb : Below w.heap.size w w') : SplitPost s w (.returned v) w' :=
  ⟨none, 0, 0, by rw [hv]; unfold splitE; rw [h]; rfl, by unfold splitB; rw [h]; exact ⟨rfl, .inl rfl⟩, hb⟩

theorem below2 (w : World) (o o' : Obj) : Below w.heap.size w ((w.alloc o).alloc o') := ((Below.refl _ _).alloc (Nat.le_refl _) _).alloc (by simp) _

theorem boxed_kept {A B : World} {row : Option Nat} {k : Nat} {t : TypeId} {v : Value} (h : Boxed A k t v) (hg : A.grownBy B row) (hr : ∀ r, row = some r → ∃ o : Obj, A.heap[r]? = some o ∧ o.isCells = false) : Boxed B k t v :=
  h.kept hg fun e => by
    obtain ⟨o, ho, hc⟩ := hr k e.symm
    rw [show A.heap[k]? = _ from h] at ho
    cases ho
    cases hc
theorem boxed_below {A B : World} {k : Nat} {t : TypeId} {v : Value} (h : Boxed A k t v) (hb : Below A.heap.size A B) : Boxed B k t v := (hb.block k h.lt).trans h

theorem row_below {A B : World} {base sz n : Nat} {e : TypeId} {v : Value} {cs : List Value} (h : A.ownsRow base e sz v n cs) (hb : Below A.heap.size A B) : B.ownsRow base e sz v n cs :=
  h.kept (only_of_below hb none) (by
    rcases h.2 with ⟨rfl, _⟩ | ⟨g, cap, cur, rfl, _⟩
    · exact .inl rfl
    · exact .inr (fun e => by cases e))
theorem from_drew {W W' : World} (h : Below W.drew.heap.size W.drew W') : Below W.heap.size W W' := ⟨h.os, h.tape, h.output, h.size, h.block⟩
theorem box_past {W w1 : World} {k base n : Nat} {t e : TypeId} {u v : Value} {cs : List Value} {o : Obj} (h : Boxed W k t u) (hte : t ≠ e) (hrow : W.ownsRow base e 1 v n cs) (hg : (W.alloc o).grownBy w1 v.ownBlock) (b : Nat) (hb : k ≠ b) (x : Value) : Boxed (w1.setCell ⟨b, 0, none⟩ x) k t u :=
  (((h.alloc o).kept hg (h.not_row hte hrow)).kept (grownBy_setCell' _ _ _) (fun e => hb (Option.some.inj e)))
theorem boxed_put {W : World} {k : Nat} {t : TypeId} {v : Value} (h : Boxed W k t v) (D : Nat) (o : Obj) (hk : k ≠ D) : Boxed (W.putObj D o) k t v := (World.putObj_heap_other hk).trans h

theorem split_done {s : ByteArray} {l : List UInt8} {ys : List Short} (h : Pth.split s.data.toList = if (∀ p ∈ Pth.pieces l, Pth.nameOk p = true) ∧ (Pth.pieces l).length ≤ 8 then some (Pth.pieces l) else none)
    (hy : ys.map (·.1.data.toList) = Pth.pieces l) (hok : ∀ x ∈ ys, Pth.nameOk x.1.data.toList = true) (h8 : ys.length ≤ 8) : splitB s = ys.map (·.1) ∧ splitE s = 0 := by
  have e : Pth.split s.data.toList = some (ys.map (·.1.data.toList)) := by
    rw [h, if_pos, hy]
    rw [← hy]
    refine ⟨fun p hp => ?_, by rw [List.length_map]; exact h8⟩
    obtain ⟨x, hx, rfl⟩ := List.mem_map.1 hp
    exact hok x hx
  refine ⟨?_, by unfold splitE; rw [e]; rfl⟩
  unfold splitB
  rw [e]
  show (ys.map (·.1.data.toList)).map _ = _
  rw [List.map_map]
  rfl

theorem split_stop {s : ByteArray} {l : List UInt8} {ys : List Short} (h : Pth.split s.data.toList = if (∀ p ∈ Pth.pieces l, Pth.nameOk p = true) ∧ (Pth.pieces l).length ≤ 8 then some (Pth.pieces l) else none)
    (hy : ys.map (·.1.data.toList) <+: Pth.pieces l) (hbad : 9 ≤ ys.length ∨ ∃ x ∈ ys, Pth.nameOk x.1.data.toList = false) : Pth.split s.data.toList = none := by
  rw [h, if_neg]
  rintro ⟨h1, h2⟩
  rcases hbad with hb | ⟨x, hx, hb⟩
  · have := hy.length_le
    rw [List.length_map] at this
    omega
  · have := h1 _ (hy.subset (List.mem_map.2 ⟨x, hx, rfl⟩))
    rw [hb] at this
    cases this

theorem two_set {W : World} {a : Nat} {t t' : TypeId} {v v' : Value} (h0 : Boxed W a t v) (h1 : Boxed W (a + 1) t' v') (x y : Value) :
    Boxed ((W.setCell ⟨a, 0, none⟩ x).setCell ⟨a + 1, 0, none⟩ y) a t x ∧ Boxed ((W.setCell ⟨a, 0, none⟩ x).setCell ⟨a + 1, 0, none⟩ y) (a + 1) t' y :=
  ⟨(h0.set x).kept (grownBy_setCell' _ _ _) (fun e => by have := Option.some.inj e; omega), (h1.kept (grownBy_setCell' _ _ _) (fun e => by have := Option.some.inj e; omega)).set y⟩
theorem two_others (W : World) (a : Nat) (x y : Value) : KeepsOthers W ((W.setCell ⟨a, 0, none⟩ x).setCell ⟨a + 1, 0, none⟩ y) := (KeepsOthers.setCell _ _ _).trans (KeepsOthers.setCell _ _ _)
theorem two_below {w W : World} {n a : Nat} (h : Below n w W) (ha : n ≤ a) (x y : Value) : Below n w ((W.setCell ⟨a, 0, none⟩ x).setCell ⟨a + 1, 0, none⟩ y) := (h.setCell (p := ⟨a, 0, none⟩) ha _).setCell (p := ⟨a + 1, 0, none⟩) (by show n ≤ a + 1; omega) _
theorem others_below {W W' : World} (h : Below W.heap.size W W') : KeepsOthers W W' := KeepsOthers.of_grownBy (only_of_below h none) (fun j o e _ => by cases e)

set_option maxRecDepth 100000 in
set_option maxHeartbeats 2000000 in
theorem Split_any (s : ByteArray) (w : World) (hs : s.size ≤ maxLen) :
    Calls Try.prog 13 #[.string s] w (SplitPost s w) := by
  unfold maxLen at hs
  refine callsIn_wide.1 (callsIn_of_wp_marks (n := 10) Try.func13 rfl trivial ?_ rfl)
  simp only [Try.ntmps13, List.size_toArray, List.length_cons, List.length_nil, Nat.reduceAdd, Nat.reduceSub, Array.replicate_succ, Array.replicate_zero, List.push_toArray, List.append_toArray, List.nil_append, List.cons_append]
  by_cases h1 : 128 < s.size
  · have h1' : (128 : Int) < (s.size : Int) := by omega
    gi_wp2
    refine ⟨trivial, ?_⟩
    gi_wp2
    exact ⟨_, by simp [results, Try.f13, go_sem], split_bad_post (split_bad h1) rfl (below2 _ _ _)⟩
  · have h1' : ¬ (128 : Int) < (s.size : Int) := by omega
    cases h2 : Lib.hasPrefix s.data.toList [47] with
    | false =>
      have hc := hasSlash_any s
      rw [h2] at hc
      have hc' := hid hc
      have h2' := hid h2
      clear hc h2
      gi_wp2_with (refine ⟨trivial, ?_⟩; gi_at_call 48; refine (callsIn_wide.2 (hc'.out _)).mono ?_; rintro e w' ⟨rfl, rfl⟩)
      exact ⟨_, by simp [results, Try.f13, go_sem], split_bad_post (split_head h2'.out) rfl (below2 _ _ _)⟩
    | true =>
      have hc := hasSlash_any s
      rw [h2] at hc
      have hc' := hid hc
      obtain ⟨l, hl⟩ := head_of h2
      have hl' := hid hl
      clear hc h2 hl
      by_cases h3 : l = []
      · have h3' : (s.toList == [47]) = true := by rw [Lib.toList_data, hl'.out, h3]; rfl
        subst h3
        gi_wp2_with (refine ⟨trivial, ?_⟩; gi_at_call 48; refine (callsIn_wide.2 (hc'.out _)).mono ?_; rintro e w' ⟨rfl, rfl⟩)
        exact ⟨.tuple #[.slice none 0 0, .int .i64 0], by simp [results, Try.f13, go_sem], none, 0, 0, by unfold splitE; rw [split_root hl'.out]; rfl, by unfold splitB; rw [split_root hl'.out]; exact ⟨rfl, .inl rfl⟩, below2 _ _ _⟩
      · have h3' : (s.toList == [47]) = false := by
          rw [Lib.toList_data, hl'.out]
          simpa using h3
        have h5 : (1 : Int) ≤ (s.size : Int) := by
          have := congrArg List.length hl'.out
          rw [data_length, List.length_cons] at this
          omega
        have hsz : (s.extract 1 s.size).size ≤ 128 := by rw [ByteArray.size_extract]; omega
        have hsp := hid (split_some hl'.out (by omega) h3)
        have htl : (s.extract 1 s.size).data.toList = l := by
          rw [Lib.extract_eq, List.take_of_length_le (by rw [List.length_drop, data_length]; exact Nat.le_refl _), hl'.out]
          rfl
        have htl' := hid htl
        have hsz' := hid hsz
        clear htl hsz h3
        gi_wp2_with (refine ⟨trivial, ?_⟩; first | (gi_at_call 48; refine (callsIn_wide.2 (hc'.out _)).mono ?_; rintro e w' ⟨rfl, rfl⟩) | (gi_at_call 49; refine (callsIn_wide.2 (pieces_any _ _)).mono ?_; rintro e w' ⟨rfl, rfl⟩))
        obtain ⟨W0, hW0⟩ : ∃ W0, (((w.alloc (.cells #[.slice none 0 0] 22)).alloc (.cells #[.int .i64 0] 23)).alloc (.cells #[.slice none 0 0] 22)).alloc (.cells #[.string (s.extract 1 s.size)] 9) = W0 := ⟨_, rfl⟩
        have hs0 : W0.heap.size = w.heap.size + 4 := by rw [← hW0]; simp
        have hB0 : Below w.heap.size w W0 := by rw [← hW0]; exact (((Below.refl _ _).alloc (Nat.le_refl _) _).alloc (by simp) _ |>.alloc (by simp; omega) _).alloc (by simp; omega) _
        have e0 : Boxed W0 w.heap.size 22 (.slice none 0 0) := by rw [← hW0]; exact heap_up _ _ _ _ (heap_up _ _ _ _ (heap_up _ _ _ _ (heap_at _ _ _ rfl)))
        have e1 : Boxed W0 (w.heap.size + 1) 23 (.int .i64 0) := by rw [← hW0]; exact heap_up _ _ _ _ (heap_up _ _ _ _ (heap_at _ _ _ (by simp)))
        have e2 : Boxed W0 (w.heap.size + 1 + 1) 22 (.slice none 0 0) := by rw [← hW0]; exact heap_up _ _ _ _ (heap_at _ _ _ (by simp))
        have e3 : Boxed W0 (w.heap.size + 1 + 1 + 1) 9 (.string (s.extract 1 s.size)) := by rw [← hW0]; exact heap_at _ _ _ (by simp)
        rw [hW0]
        have hstops := hid (names_stops 8 (w.heap.size + 1 + 1 + 1) (s.extract 1 s.size) hsz'.out W0 (by omega) e3.cell)
        clear hW0
        obtain ⟨i0, hi, hz0, hz1, hz2⟩ := info_parts info_string
        refine wpIn_rangeFunc_ownF rfl (by omega) (gf := 92) (lb := #[.pointer (some ⟨w.heap.size + 1 + 1 + 1, 0, none⟩)]) rfl trivial (enters_of Try.func92 (by kernel_rfl) rfl)
          hstops.out Nat.le_trans (fun W l o o' _ _ _ _ => by rw [World.putObj_size]; exact Nat.le_refl _) (Below.refl _ _) (fun _ => rfl)
          (fun pre W => ((∃ v, Boxed W (w.heap.size + 1 + 1) 22 v ∧ W.ownsRow w.heap.size 9 1 v pre.length (strs (pre.map (·.1))) ∧ ∃ A c, v = .slice A pre.length c) ∧ Boxed W w.heap.size 22 (.slice none 0 0) ∧ Boxed W (w.heap.size + 1) 23 (.int .i64 0) ∧ W0.heap.size ≤ W.heap.size ∧ pre.length ≤ 8 ∧ ∀ x ∈ pre, Pth.nameOk x.1.data.toList = true) ∧ Below w.heap.size w W)
          (fun c pre W => (c = .ret ∧ Boxed W w.heap.size 22 (.slice none 0 0) ∧ Boxed W (w.heap.size + 1) 23 (.int .i64 1600) ∧ (9 ≤ pre.length ∨ ∃ x ∈ pre, Pth.nameOk x.1.data.toList = false)) ∧ Below w.heap.size w W)
          (OwnFrom.and (Own.from (fun s A B row hs hg hr => ⟨holdsRow_own w.heap.size (w.heap.size + 1 + 1) 22 9 1 (fun pre : List Short => pre.length) (fun pre => strs (pre.map (·.1))) (fun pre v => ∃ A c, v = .slice A pre.length c) s A B row hs.1 hg hr, boxed_kept hs.2.1 hg hr, boxed_kept hs.2.2.1 hg hr, Nat.le_trans hs.2.2.2.1 hg.size, hs.2.2.2.2⟩) _) (ownFrom_below (Nat.le_refl _) (by omega)))
          (fun c => OwnFrom.and (Own.from (fun s A B row hs hg hr => ⟨hs.1, boxed_kept hs.2.1 hg hr, boxed_kept hs.2.2.1 hg hr, hs.2.2.2⟩) _) (ownFrom_below (Nat.le_refl _) (by omega)))
          ⟨⟨⟨_, e2, World.ownsRow_nil _ _ _ _, none, 0, rfl⟩, e0, e1, Nat.le_refl _, Nat.zero_le _, fun x hx => by cases hx⟩, hB0⟩
          (fun x => { tmps := #[.string s, undef, .pointer (some ⟨w.heap.size, 0, none⟩), .pointer (some ⟨w.heap.size + 1, 0, none⟩), .pointer (some ⟨w.heap.size + 1 + 1, 0, none⟩), .string x.1, .string s, .int .i64 s.size, .bool false, .bool false, .string s, .bool true, .bool false, .bool false, .string s, .bool false, .string s, .string (s.extract 1 s.size), .func (.func 92) #[] #[.pointer (some ⟨w.heap.size + 1 + 1 + 1, 0, none⟩)], .string x.1, undef, undef, undef, undef, undef, undef, undef, undef, undef, undef, undef, undef, undef, undef], defers := [] }) ?assign ?body ?done ?stop
        case assign =>
          intro l x W K hK
          gi_wp2
          exact hK
        case body =>
          rintro l pre x W ⟨⟨⟨v, hv, hrow, A, c, rfl⟩, hr0, hr1, hszW, h8, hok⟩, hB⟩ hlt
          have hc := hv.cell
          have hc0 := hr0.cell
          have hf0 := hr0.frozen
          have hc1 := hr1.cell
          have hf1 := hr1.frozen
          have hx := x.2
          have hok' := hid hok
          have hrow' := hid hrow
          clear hok hrow
          by_cases hl8 : pre.length = 8
          · have hl8' : ((pre.length : Int) == 8) = true := by simp; omega
            gi_wp2
            refine ⟨trivial, ?_⟩
            gi_wp2
            obtain ⟨k0, k1⟩ := two_set hr0 hr1 (.slice none 0 0) (.int .i64 1600)
            exact ⟨two_others _ _ _ _, ⟨rfl, k0, k1, .inl (by rw [List.length_append]; show 9 ≤ pre.length + 1; omega)⟩, two_below hB (Nat.le_refl _) _ _⟩
          · have hl8' : ((pre.length : Int) == 8) = false := by simp; omega
            have hn := nameMay_any x.1
            cases hnm : Pth.nameOk x.1.data.toList with
            | false =>
              rw [hnm] at hn
              have hn' := hid hn
              have hnm' := hid hnm
              clear hn hnm
              gi_wp2_with fail
              refine ⟨trivial, (CallsIn.inRound l (callsIn_wide.2 (hn'.out W (by unfold maxLen; omega)))).mono ?_⟩
              rintro e W1 ⟨rfl, hb1⟩
              have hr01 := boxed_below hr0 hb1
              have hr11 := boxed_below hr1 hb1
              obtain ⟨k0, k1⟩ := two_set hr01 hr11 (.slice none 0 0) (.int .i64 1600)
              have hk := (others_below hb1).trans (two_others W1 w.heap.size (.slice none 0 0) (.int .i64 1600))
              have hB1 := two_below (hB.trans (hb1.mono hB.size)) (Nat.le_refl _) (.slice none 0 0) (.int .i64 1600)
              have hc01 := hr01.cell
              have hf01 := hr01.frozen
              have hc11 := hr11.cell
              have hf11 := hr11.frozen
              have k0' := hid k0
              have k1' := hid k1
              have hk' := hid hk
              have hB1' := hid hB1
              clear k0 k1 hk hB1 hb1 hc0 hf0 hc1 hf1 hc
              gi_wp2
              exact ⟨hk'.out, ⟨rfl, k0'.out, k1'.out, .inr ⟨x, List.mem_append.2 (.inr (List.mem_singleton.2 rfl)), hnm'.out⟩⟩, hB1'.out⟩
            | true =>
              rw [hnm] at hn
              have hn' := hid hn
              have hnm' := hid hnm
              clear hn hnm
              gi_wp2_with fail
              refine ⟨trivial, (CallsIn.inRound l (callsIn_wide.2 (hn'.out W (by unfold maxLen; omega)))).mono ?_⟩
              rintro e W1 ⟨rfl, hb1⟩
              have hr01 := hid (boxed_below hr0 hb1)
              have hr11 := hid (boxed_below hr1 hb1)
              have hv1 := boxed_below hv hb1
              have hc1v := hv1.cell
              have hb1' := hid hb1
              clear hb1 hc0 hf0 hc1 hf1 hc
              gi_wp2_with fail
              have mixed : Try.prog.follows Departure.mixedOrders = true := by kernel_rfl
              refine wpIn_region_round (S := fun _ => True) mixed (by kernel_rfl) (fun ⟨_, _, h⟩ => h) trivial (fun hHeld => ?_)
              refine wpAnyH_take (i := 1) (v := .string x.1) rfl (by kernel_rfl) (by kernel_rfl) (by kernel_rfl) (fun _ _ _ h => h) (yieldsIf_move _ rfl rfl rfl) trivial ?_
              simp only [ly1, ly2, ly3, Act.put, ly5, ly6, ly7]
              refine wpAnyH_ready (rs := [0, 2]) (by kernel_rfl) (by simp) (AllReadyH.cons rfl (fun K hK => ?_) (AllReadyH.cons rfl (fun K hK => ?_) AllReadyH.nil)) <;> have hK' := hid hK <;> clear hK
              case refine_1 =>
                rw [if_pos (by kernel_rfl)]
                simp only [ly1, ly2, ly3]
                go_simp
                refine hK'.out _ _ trivial (fun _ => ?_)
                clear hK' K
                try simp only [ly1, ly2, ly3, Act.put, ly5, ly6, ly7]
                refine wpAnyH_ready (rs := [2]) (by kernel_rfl) (by simp) (AllReadyH.cons rfl (fun K hK => ?_) AllReadyH.nil)
                have hK' := hid hK
                clear hK
                rw [if_pos (by kernel_rfl)]
                simp only [ly1, ly2, ly3]
                go_simp
                refine (stringsClone_any x.1 _ (by omega)).mono ?_
                rintro e W2 ⟨rfl, hb2⟩
                have hv2 := boxed_below (show Boxed W1.drew _ _ _ from hv1) hb2
                have hc2v := hv2.cell
                have hb2' := hid (from_drew hb2)
                clear hb2
                refine hK'.out _ _ trivial (fun _ => ?_)
                clear hK' K
                try simp only [ly1, ly2, ly3, Act.put, ly5, ly6, ly7]
                refine wpAnyH_ready (rs := [3]) (by kernel_rfl) (by simp) (AllReadyH.cons rfl (fun K hK => ?_) AllReadyH.nil)
                have hK' := hid hK
                clear hK
                rw [if_pos (by kernel_rfl)]
                simp only [ly1, ly2, ly3]
                go_simp
                refine hK'.out _ _ trivial (fun _ => ?_)
                clear hK' K
                try simp only [ly1, ly2, ly3, Act.put, ly5, ly6, ly7]
                refine wpAnyH_ready (rs := [4]) (by kernel_rfl) (by simp) (AllReadyH.cons rfl (fun K hK => ?_) AllReadyH.nil)
                have hK' := hid hK
                clear hK
                rw [if_pos (by kernel_rfl)]
                simp only [ly1, ly2, ly3]
                have hrow2 := row_below (row_below hrow'.out hb1'.out) hb2'.out
                have hsz1 : w.heap.size ≤ W2.heap.size := Nat.le_trans hB.size (Nat.le_trans hb1'.out.size hb2'.out.size)
                refine wp_push (.tmp 28) (.tmp 31) 22 9 rfl w.heap.size i0 (.string ByteArray.empty) 16 Try.underlying22 hi hz0 hz1 hz2 rfl (by decide) A pre.length c (strs (pre.map (·.1))) W2.heap.size (.string x.1) rfl rfl rfl (by omega) (hrow2.alloc _) (by simp) (by simp; omega) ?_
                intro A' c' w1 hown' _ hgrow
                obtain ⟨hq1, hq2, hq3, hq4, hq5⟩ := hv2.appended (n₀ := w.heap.size) (by decide) hrow2 hsz1 (by omega) hown' hgrow
                have hc1 := hq1.cell
                have hf1 := hq1.frozen
                have hq2' := hid hq2
                have hq3' := hid hq3
                have hq4' := hid hq4
                have hq5' := hid hq5
                have hg' := hid hgrow
                clear hq2 hq3 hq4 hq5 hgrow hown' hc2v
                refine hK'.out _ _ trivial (fun _ => ?_)
                clear hK' K
                try simp only [ly1, ly2, ly3, Act.put, ly5, ly6, ly7]
                refine wpAnyH_ready (rs := [5]) (by kernel_rfl) (by simp) (AllReadyH.cons rfl (fun K hK => ?_) AllReadyH.nil)
                have hK' := hid hK
                clear hK
                rw [if_pos (by kernel_rfl)]
                simp only [ly1, ly2, ly3]
                go_simp
                refine hK'.out _ _ trivial (fun _ => ?_)
                clear hK' K
                refine wpAnyH_done (by kernel_rfl) ?_ _
                have hk0 := box_past (boxed_below hr01.out hb2'.out) (by decide) hrow2 hg'.out (w.heap.size + 1 + 1) (by omega) (.slice A' (pre.length + 1) c')
                have hk1 := box_past (boxed_below hr11.out hb2'.out) (by decide) hrow2 hg'.out (w.heap.size + 1 + 1) (by omega) (.slice A' (pre.length + 1) c')
                have hz := Nat.le_trans hb1'.out.size (Nat.le_trans hb2'.out.size hq5'.out.size)
                refine ⟨((others_below hb1'.out).trans (others_below hb2'.out)).trans hq4'.out, hz, ⟨⟨_, hq2'.out, ?_, A', c', ?_⟩, hk0, hk1, Nat.le_trans hszW hz, ?_, ?_⟩, ((hB.trans (hb1'.out.mono hB.size)).trans (hb2'.out.mono (Nat.le_trans hB.size hb1'.out.size))).trans hq5'.out⟩
                · rw [List.length_append, List.map_append, strs_append]
                  exact hq3'.out
                · rw [List.length_append]
                  rfl
                · rw [List.length_append]
                  show pre.length + 1 ≤ 8
                  omega
                · intro y hy
                  rcases List.mem_append.1 hy with hy | hy
                  · exact hok'.out y hy
                  · rw [List.mem_singleton.1 hy]
                    exact hnm'.out
              case refine_2 =>
                rw [if_pos (by kernel_rfl)]
                simp only [ly1, ly2, ly3]
                go_simp
                refine (stringsClone_any x.1 _ (by omega)).mono ?_
                rintro e W2 ⟨rfl, hb2⟩
                have hv2 := boxed_below (show Boxed W1.drew _ _ _ from hv1) hb2
                have hc2v := hv2.cell
                have hb2' := hid (from_drew hb2)
                clear hb2
                refine hK'.out _ _ trivial (fun _ => ?_)
                clear hK' K
                try simp only [ly1, ly2, ly3, Act.put, ly5, ly6, ly7]
                refine wpAnyH_ready (rs := [0, 3]) (by kernel_rfl) (by simp) (AllReadyH.cons rfl (fun K hK => ?_) (AllReadyH.cons rfl (fun K hK => ?_) AllReadyH.nil)) <;> have hK' := hid hK <;> clear hK
                case refine_1 =>
                  rw [if_pos (by kernel_rfl)]
                  simp only [ly1, ly2, ly3]
                  go_simp
                  refine hK'.out _ _ trivial (fun _ => ?_)
                  clear hK' K
                  try simp only [ly1, ly2, ly3, Act.put, ly5, ly6, ly7]
                  refine wpAnyH_ready (rs := [3]) (by kernel_rfl) (by simp) (AllReadyH.cons rfl (fun K hK => ?_) AllReadyH.nil)
                  have hK' := hid hK
                  clear hK
                  rw [if_pos (by kernel_rfl)]
                  simp only [ly1, ly2, ly3]
                  go_simp
                  refine hK'.out _ _ trivial (fun _ => ?_)
                  clear hK' K
                  try simp only [ly1, ly2, ly3, Act.put, ly5, ly6, ly7]
                  refine wpAnyH_ready (rs := [4]) (by kernel_rfl) (by simp) (AllReadyH.cons rfl (fun K hK => ?_) AllReadyH.nil)
                  have hK' := hid hK
                  clear hK
                  rw [if_pos (by kernel_rfl)]
                  simp only [ly1, ly2, ly3]
                  have hrow2 := row_below (row_below hrow'.out hb1'.out) hb2'.out
                  have hsz1 : w.heap.size ≤ W2.heap.size := Nat.le_trans hB.size (Nat.le_trans hb1'.out.size hb2'.out.size)
                  refine wp_push (.tmp 28) (.tmp 31) 22 9 rfl w.heap.size i0 (.string ByteArray.empty) 16 Try.underlying22 hi hz0 hz1 hz2 rfl (by decide) A pre.length c (strs (pre.map (·.1))) W2.heap.size (.string x.1) rfl rfl rfl (by omega) (hrow2.alloc _) (by simp) (by simp; omega) ?_
                  intro A' c' w1 hown' _ hgrow
                  obtain ⟨hq1, hq2, hq3, hq4, hq5⟩ := hv2.appended (n₀ := w.heap.size) (by decide) hrow2 hsz1 (by omega) hown' hgrow
                  have hc1 := hq1.cell
                  have hf1 := hq1.frozen
                  have hq2' := hid hq2
                  have hq3' := hid hq3
                  have hq4' := hid hq4
                  have hq5' := hid hq5
                  have hg' := hid hgrow
                  clear hq2 hq3 hq4 hq5 hgrow hown' hc2v
                  refine hK'.out _ _ trivial (fun _ => ?_)
                  clear hK' K
                  try simp only [ly1, ly2, ly3, Act.put, ly5, ly6, ly7]
                  refine wpAnyH_ready (rs := [5]) (by kernel_rfl) (by simp) (AllReadyH.cons rfl (fun K hK => ?_) AllReadyH.nil)
                  have hK' := hid hK
                  clear hK
                  rw [if_pos (by kernel_rfl)]
                  simp only [ly1, ly2, ly3]
                  go_simp
                  refine hK'.out _ _ trivial (fun _ => ?_)
                  clear hK' K
                  refine wpAnyH_done (by kernel_rfl) ?_ _
                  have hk0 := box_past (boxed_below hr01.out hb2'.out) (by decide) hrow2 hg'.out (w.heap.size + 1 + 1) (by omega) (.slice A' (pre.length + 1) c')
                  have hk1 := box_past (boxed_below hr11.out hb2'.out) (by decide) hrow2 hg'.out (w.heap.size + 1 + 1) (by omega) (.slice A' (pre.length + 1) c')
                  have hz := Nat.le_trans hb1'.out.size (Nat.le_trans hb2'.out.size hq5'.out.size)
                  refine ⟨((others_below hb1'.out).trans (others_below hb2'.out)).trans hq4'.out, hz, ⟨⟨_, hq2'.out, ?_, A', c', ?_⟩, hk0, hk1, Nat.le_trans hszW hz, ?_, ?_⟩, ((hB.trans (hb1'.out.mono hB.size)).trans (hb2'.out.mono (Nat.le_trans hB.size hb1'.out.size))).trans hq5'.out⟩
                  · rw [List.length_append, List.map_append, strs_append]
                    exact hq3'.out
                  · rw [List.length_append]
                    rfl
                  · rw [List.length_append]
                    show pre.length + 1 ≤ 8
                    omega
                  · intro y hy
                    rcases List.mem_append.1 hy with hy | hy
                    · exact hok'.out y hy
                    · rw [List.mem_singleton.1 hy]
                      exact hnm'.out
                case refine_2 =>
                  rw [if_pos (by kernel_rfl)]
                  simp only [ly1, ly2, ly3]
                  go_simp
                  refine hK'.out _ _ trivial (fun _ => ?_)
                  clear hK' K
                  try simp only [ly1, ly2, ly3, Act.put, ly5, ly6, ly7]
                  have hc3 := (hv2.alloc (.cells #[.string x.1] 9)).cell
                  refine wpAnyH_ready (rs := [0]) (by kernel_rfl) (by simp) (AllReadyH.cons rfl (fun K hK => ?_) AllReadyH.nil)
                  have hK' := hid hK
                  clear hK
                  rw [if_pos (by kernel_rfl)]
                  simp only [ly1, ly2, ly3]
                  go_simp
                  refine hK'.out _ _ trivial (fun _ => ?_)
                  clear hK' K
                  try simp only [ly1, ly2, ly3, Act.put, ly5, ly6, ly7]
                  refine wpAnyH_ready (rs := [4]) (by kernel_rfl) (by simp) (AllReadyH.cons rfl (fun K hK => ?_) AllReadyH.nil)
                  have hK' := hid hK
                  clear hK
                  rw [if_pos (by kernel_rfl)]
                  simp only [ly1, ly2, ly3]
                  have hrow2 := row_below (row_below hrow'.out hb1'.out) hb2'.out
                  have hsz1 : w.heap.size ≤ W2.heap.size := Nat.le_trans hB.size (Nat.le_trans hb1'.out.size hb2'.out.size)
                  refine wp_push (.tmp 28) (.tmp 31) 22 9 rfl w.heap.size i0 (.string ByteArray.empty) 16 Try.underlying22 hi hz0 hz1 hz2 rfl (by decide) A pre.length c (strs (pre.map (·.1))) W2.heap.size (.string x.1) rfl rfl rfl (by omega) (hrow2.alloc _) (by simp) (by simp; omega) ?_
                  intro A' c' w1 hown' _ hgrow
                  obtain ⟨hq1, hq2, hq3, hq4, hq5⟩ := hv2.appended (n₀ := w.heap.size) (by decide) hrow2 hsz1 (by omega) hown' hgrow
                  have hc1 := hq1.cell
                  have hf1 := hq1.frozen
                  have hq2' := hid hq2
                  have hq3' := hid hq3
                  have hq4' := hid hq4
                  have hq5' := hid hq5
                  have hg' := hid hgrow
                  clear hq2 hq3 hq4 hq5 hgrow hown' hc2v
                  refine hK'.out _ _ trivial (fun _ => ?_)
                  clear hK' K
                  try simp only [ly1, ly2, ly3, Act.put, ly5, ly6, ly7]
                  refine wpAnyH_ready (rs := [5]) (by kernel_rfl) (by simp) (AllReadyH.cons rfl (fun K hK => ?_) AllReadyH.nil)
                  have hK' := hid hK
                  clear hK
                  rw [if_pos (by kernel_rfl)]
                  simp only [ly1, ly2, ly3]
                  go_simp
                  refine hK'.out _ _ trivial (fun _ => ?_)
                  clear hK' K
                  refine wpAnyH_done (by kernel_rfl) ?_ _
                  have hk0 := box_past (boxed_below hr01.out hb2'.out) (by decide) hrow2 hg'.out (w.heap.size + 1 + 1) (by omega) (.slice A' (pre.length + 1) c')
                  have hk1 := box_past (boxed_below hr11.out hb2'.out) (by decide) hrow2 hg'.out (w.heap.size + 1 + 1) (by omega) (.slice A' (pre.length + 1) c')
                  have hz := Nat.le_trans hb1'.out.size (Nat.le_trans hb2'.out.size hq5'.out.size)
                  refine ⟨((others_below hb1'.out).trans (others_below hb2'.out)).trans hq4'.out, hz, ⟨⟨_, hq2'.out, ?_, A', c', ?_⟩, hk0, hk1, Nat.le_trans hszW hz, ?_, ?_⟩, ((hB.trans (hb1'.out.mono hB.size)).trans (hb2'.out.mono (Nat.le_trans hB.size hb1'.out.size))).trans hq5'.out⟩
                  · rw [List.length_append, List.map_append, strs_append]
                    exact hq3'.out
                  · rw [List.length_append]
                    rfl
                  · rw [List.length_append]
                    show pre.length + 1 ≤ 8
                    omega
                  · intro y hy
                    rcases List.mem_append.1 hy with hy | hy
                    · exact hok'.out y hy
                    · rw [List.mem_singleton.1 hy]
                      exact hnm'.out
        case done =>
          rintro D ys W hD hys ⟨⟨⟨v, hv, hrow, A, c, rfl⟩, hr0, hr1, hszW, h8, hok⟩, hB⟩ hK
          have hc := hv.cell
          have hc0 := hr0.cell
          have hf0 := hr0.frozen
          have hc1 := hr1.cell
          have hf1 := hr1.frozen
          have hrow' := hid hrow
          have hok' := hid hok
          have hys' := hid hys
          clear hrow hok hys
          gi_wp2
          obtain ⟨k0, k1⟩ := two_set hr0 hr1 (.slice A ys.length c) (.int .i64 0)
          have hn0 := hr0.not_row (by decide) hrow'.out
          have hn1 := hr1.not_row (by decide) hrow'.out
          have hrow2 := (hrow'.out.kept (grownBy_setCell' W w.heap.size (.slice A ys.length c)) (.inr hn0.symm)).kept (grownBy_setCell' _ (w.heap.size + 1) (.int .i64 0)) (.inr hn1.symm)
          have hK2 := (two_others W w.heap.size (.slice A ys.length c) (.int .i64 0)).same D _ hK rfl
          have hB2 := two_below hB (Nat.le_refl _) (.slice A ys.length c) (.int .i64 0)
          generalize (W.setCell ⟨w.heap.size, 0, none⟩ (.slice A ys.length c)).setCell ⟨w.heap.size + 1, 0, none⟩ (.int .i64 0) = W2 at k0 k1 hrow2 hK2 hB2 ⊢
          refine ⟨by simp, .inl ⟨_, _, rfl, run_takeDeferred hK2, ?_⟩⟩
          have p0 := (boxed_put k0 D (.deferred none) (by omega)).cell
          have p1 := (boxed_put k1 D (.deferred none) (by omega)).cell
          refine ⟨.tuple #[.slice A ys.length c, .int .i64 0], by simp [results, Try.f13, go_sem, p0, p1], ?_⟩
          obtain ⟨hb, he⟩ := split_done hsp.out (htl'.out ▸ hys'.out) hok'.out h8
          refine ⟨A, ys.length, c, by rw [he], ?_, hB2.trans (belowK_b (w := w) (Nat.le_refl _) W2 D _ _ (by omega) hK2 rfl rfl)⟩
          rw [hb]
          exact At.of_own (ownsRow_putObj hrow2 _ hK2 rfl)
        case stop =>
          rintro D c pre W hD hpre ⟨⟨rfl, hr0, hr1, hbad⟩, hB⟩ hK
          have hpre' := hid hpre
          have hbad' := hid hbad
          clear hpre hbad
          gi_wp2
          refine ⟨by simp, .inl ⟨_, _, rfl, run_takeDeferred hK, ?_⟩⟩
          have p0 := (boxed_put hr0 D (.deferred none) (by omega)).cell
          have p1 := (boxed_put hr1 D (.deferred none) (by omega)).cell
          exact ⟨.tuple #[.slice none 0 0, .int .i64 1600], by simp [results, Try.f13, go_sem, p0, p1], split_bad_post (split_stop hsp.out (htl'.out ▸ hpre'.out) hbad'.out) rfl (hB.trans (belowK_b (w := w) (Nat.le_refl _) W D _ _ (by omega) hK rfl rfl))⟩

end Go.Proofs.Ytapegklffglnoaa
