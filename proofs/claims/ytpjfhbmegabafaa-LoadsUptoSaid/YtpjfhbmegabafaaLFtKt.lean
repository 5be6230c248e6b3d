/- Layer 12: Loads. -/
import Derived.Test.YtpjfhbmegabafaaLFtKs
import Derived.Test.YtpjfhbmegabafaaLFtBs
import Derived.Test.YtpjfhbmegabafaaLLendT
namespace Go.Proofs.Ytpjfhbmegabafaa
open Go.RowKit
open Go.Lib (strCells strCells_length strCells_oneCell)
attribute [local irreducible] Sha.compress Sha.blocks Sha.sha Sha.pad

set_option maxRecDepth 100000 in
theorem loadBad_any (root : List UInt8) (hr32 : root.length = 32) (z : Int) (hz : z < 0 ∨ 4096 < z) (s : Value) (w : World) :
    Calls Try.prog 30 #[.agg (byteCells root).toArray, .int .i64 z, s] w (LoadIs ⟨#[]⟩ [] 1200 w) := by
  have hC := hid (hash_cells root hr32)
  obtain ⟨g, hg⟩ : ∃ g, w.heap.size = g := ⟨_, rfl⟩
  obtain ⟨Wa, hWa⟩ : ∃ V, w.alloc (.cells (byteCells root).toArray 33) = V := ⟨_, rfl⟩
  have hal := allocs_any [((byteCells root).toArray, 33), (#[.int .i64 z], 3)] w
  obtain ⟨W1, hW1⟩ : ∃ V, allocs [((byteCells root).toArray, 33), (#[.int .i64 z], 3)] w = V := ⟨_, rfl⟩
  have hWb := hid (show Wa.alloc (.cells #[.int .i64 z] 3) = W1 from by rw [← hWa]; exact hW1)
  have hsa := hid (show Wa.heap.size = g + 1 from by rw [← hWa, World.size_alloc, hg])
  have hWa' := hid hWa
  have hg' := hid hg
  rw [hW1, hg] at hal
  obtain ⟨hs1, hb1, hc1⟩ := hal
  have hS1 := hid (show Holds W1 (g + 1) 3 [.int .i64 z] from hc1 1 _ rfl)
  have hb1' := hid (show Below w.heap.size w W1 from by rw [hg]; exact hb1)
  have cS := hS1.out.cO 0 _ rfl
  by_cases h1 : z < 0
  · clear hz hc1 hb1 hs1 hW1 hWa hg
    go_enter Try.func30, Try.ntmps30
    go_wp2_with (first
      | ((with_reducible refine at_slot (some 3) ?_); refine wpList_run rfl (.pointer (some ⟨g, 0, none⟩)) (w.alloc (.cells (byteCells root).toArray 33)) (by rw [← hg'.out]; kernel_rfl) ?_; rw [hWa'.out])
      | ((with_reducible refine at_slot (some 4) ?_); refine wpList_run rfl (.pointer (some ⟨g + 1, 0, none⟩)) (Wa.alloc (.cells #[.int .i64 z] 3)) (by rw [← hsa.out]; kernel_rfl) ?_; rw [hWb.out])
      | fail)
    refine bodyPost_ret (results_tmp3 rfl _ _ _) rfl ?_
    exact ⟨none, 0, rfl, hashs_nil _, hb1'.out⟩
  · have h2 : 4096 < z := by omega
    clear hz hc1 hb1 hs1 hW1 hWa hg
    go_enter Try.func30, Try.ntmps30
    go_wp2_with (first
      | ((with_reducible refine at_slot (some 3) ?_); refine wpList_run rfl (.pointer (some ⟨g, 0, none⟩)) (w.alloc (.cells (byteCells root).toArray 33)) (by rw [← hg'.out]; kernel_rfl) ?_; rw [hWa'.out])
      | ((with_reducible refine at_slot (some 4) ?_); refine wpList_run rfl (.pointer (some ⟨g + 1, 0, none⟩)) (Wa.alloc (.cells #[.int .i64 z] 3)) (by rw [← hsa.out]; kernel_rfl) ?_; rw [hWb.out])
      | fail)
    refine bodyPost_ret (results_tmp3 rfl _ _ _) rfl ?_
    exact ⟨none, 0, rfl, hashs_nil _, hb1'.out⟩
set_option maxRecDepth 100000 in
theorem loadFileBad_any (r : Nat) (root : List UInt8) (z : Int) (hz : z < 0 ∨ 4096 < z) (w : World) :
    Calls Try.prog 32 #[.pointer (some ⟨r, 0, none⟩), .agg (byteCells root).toArray, .int .i64 z] w (LoadIs ⟨#[]⟩ [] 1200 w) := by
  obtain ⟨W0, hW0⟩ : ∃ V, w.alloc (.cells (byteCells root).toArray 33) = V := ⟨_, rfl⟩
  have hb0 := hid (show Below w.heap.size w W0 from by rw [← hW0]; exact (Below.refl _ _).alloc (Nat.le_refl _) _)
  have hW0' := hid hW0
  clear hW0
  by_cases h1 : z < 0
  · clear hz
    go_enter Try.func32, Try.ntmps32
    go_wp2_with (first
      | ((with_reducible refine at_slot (some 4) ?_); refine wpList_run rfl (.pointer (some ⟨w.heap.size, 0, none⟩)) (w.alloc (.cells (byteCells root).toArray 33)) (by kernel_rfl) ?_; rw [hW0'.out])
      | fail)
    refine bodyPost_ret (results_tmp3 rfl _ _ _) rfl ?_
    exact ⟨none, 0, rfl, hashs_nil _, hb0.out⟩
  · have h2 : 4096 < z := by omega
    clear hz
    go_enter Try.func32, Try.ntmps32
    go_wp2_with (first
      | ((with_reducible refine at_slot (some 4) ?_); refine wpList_run rfl (.pointer (some ⟨w.heap.size, 0, none⟩)) (w.alloc (.cells (byteCells root).toArray 33)) (by kernel_rfl) ?_; rw [hW0'.out])
      | fail)
    refine bodyPost_ret (results_tmp3 rfl _ _ _) rfl ?_
    exact ⟨none, 0, rfl, hashs_nil _, hb0.out⟩
/-- Load and what it answers, plain. -/
theorem load_is {T : Option (ByteArray × List (List UInt8))} {D : ByteArray} {want : List (List UInt8)} {E : Int} (hT : ansT T = (D, want, E)) (h32 : ∀ d ws, T = some (d, ws) → ∀ x ∈ ws, x.length = 32) {w : World} {e : Ending} {w' : World} (h : LoadPost w T e w') (hb : Below w.heap.size w w') : LoadIs D want E w e w' := by
  rcases T with _ | ⟨d, ws⟩
  · obtain ⟨rfl, rfl, rfl⟩ := ans_none hT
    exact ⟨none, 0, h, hashs_nil _, hb⟩
  · by_cases hw : ws = []
    · subst hw
      obtain ⟨rfl, rfl, rfl⟩ := ans_ok hT
      exact ⟨none, 0, h, hashs_nil _, hb⟩
    · obtain ⟨rfl, rfl, rfl⟩ := ans_want hw hT
      have h : (if want = [] then e = .returned (.tuple #[.string d, .slice none 0 0, .int .i64 0])
        else ∃ A' m c', e = .returned (.tuple #[.string ⟨#[]⟩, .slice A' m c', .int .i64 1201]) ∧ w'.ownsRow 0 33 32 (.slice A' m c') m (hashCells want) ∧ ∀ k, (Value.slice A' m c').ownBlock = some k → w.heap.size ≤ k) := h
      rw [if_neg hw] at h
      obtain ⟨A', m, c', rfl, hr, -⟩ := h
      have hH := own_hashs hr (h32 _ _ rfl)
      obtain rfl := hH.len
      exact ⟨A', c', rfl, hH, hb⟩
theorem foldH_mem {x : List UInt8} : ∀ (l acc : List (List UInt8)), x ∈ l.foldl addH acc → x ∈ acc ∨ x ∈ l
  | [], _, h => .inl h
  | y :: l, acc, h => by
    rcases foldH_mem l (addH acc y) h with h | h
    · rcases addH_mem h with h | rfl
      · exact .inl h
      · exact .inr (List.mem_cons_self ..)
    · exact .inr (List.mem_cons_of_mem _ h)
theorem unlikeH_32 {l : List (List UInt8)} {k : Nat} (hk : k ≤ 64) (h : (∀ x ∈ l, x.length = 32) ∧ l.length ≤ ([] : List (List UInt8)).length + k) : (∀ x ∈ unlikeH l, x.length = 32) ∧ (unlikeH l).length ≤ 64 := by
  refine ⟨fun x hx => ?_, ?_⟩
  · rcases foldH_mem l [] hx with h2 | h2
    · cases h2
    · exact h.1 x h2
  · have h2 := foldH_len l []
    have h3 := h.2
    have e0 : ([] : List (List UInt8)).length = 0 := rfl
    unfold unlikeH
    omega
section
variable {get : List UInt8 → Option ByteArray} {may : Nat → ByteArray → Bool}
theorem want_32 : ∀ (hs : List (List UInt8)) (i : Nat) (acc acc' : List ByteArray) (want want' : List (List UInt8)), lvl get may i hs acc want = some (acc', want') → (∀ x ∈ hs, x.length = 32) → (∀ x ∈ want, x.length = 32) → (∀ x ∈ want', x.length = 32) ∧ want'.length ≤ want.length + hs.length
  | [], i, acc, acc', want, want', h, _, hw => by
    rw [lvl] at h
    injection h with h
    injection h with h1 h2
    rw [← h2]
    exact ⟨hw, Nat.le_add_right _ _⟩
  | h :: hs, i, acc, acc', want, want', he, h32, hw => by
    have h3 : ∀ x ∈ hs, x.length = 32 := fun x hx => h32 x (List.mem_cons_of_mem _ hx)
    cases hg : get h with
    | none =>
      rw [lvl_want hg] at he
      obtain ⟨k1, k2⟩ := want_32 hs (i + 1) acc acc' _ want' he h3 (fun x hx => by
        rcases List.mem_append.1 hx with hx | hx
        · exact hw x hx
        · rw [List.mem_singleton.1 hx]; exact h32 h (List.mem_cons_self ..))
      refine ⟨k1, ?_⟩
      rw [List.length_append, List.length_singleton] at k2
      rw [List.length_cons]
      omega
    | some x =>
      cases hm : may i x with
      | true =>
        rw [lvl_in hg hm] at he
        obtain ⟨k1, k2⟩ := want_32 hs (i + 1) _ acc' want want' he h3 hw
        exact ⟨k1, by rw [List.length_cons]; omega⟩
      | false =>
        rw [lvl_bad hg hm] at he
        cases he
theorem loadT_32 {root : List UInt8} (hr : root.length = 32) {size : Nat} (hsz : size ≤ 4096) : ∀ d ws, loadT get root size = some (d, ws) → (∀ x ∈ ws, x.length = 32) ∧ ws.length ≤ 64 := by
  intro d ws h
  rw [loadT_one] at h
  have hf : cutN 8 (cutN 64 size) ≤ 8 := by unfold cutN; omega
  cases h1 : lvl get (mayR (cutN 8 (cutN 64 size))) 0 [root] [] [] with
  | none => rw [h1] at h; cases h
  | some p =>
    obtain ⟨a, w1⟩ := p
    rw [h1] at h
    replace h : (if w1 = [] then load2 get size (pcsL a) else some (⟨#[]⟩, unlikeH w1)) = some (d, ws) := h
    by_cases hw1 : w1 = []
    · subst hw1
      rw [if_pos rfl] at h
      obtain ⟨r1, r2, -⟩ := rootrow_len hf h1
      have p1 := pcsL_len (fun x hx => (r2 x hx).1)
      unfold load2 at h
      cases h2 : lvl get (mayI (cutN 64 size)) 0 (pcsL a) [] [] with
      | none => rw [h2] at h; cases h
      | some p =>
        obtain ⟨b, w2⟩ := p
        rw [h2] at h
        replace h : (if w2 = [] then load3 get size (pcsL b) else some (⟨#[]⟩, unlikeH w2)) = some (d, ws) := h
        by_cases hw2 : w2 = []
        · subst hw2
          rw [if_pos rfl] at h
          obtain ⟨q1, q2, -⟩ := rows_len h2 r1
          have p2 := pcsL_len (fun x hx => (q2 x hx).1)
          unfold load3 at h
          cases h3 : lvl get (mayB size) 0 (pcsL b) [] [] with
          | none => rw [h3] at h; cases h
          | some p =>
            obtain ⟨c, w3⟩ := p
            rw [h3] at h
            replace h : (if w3 = [] then some (catT c, []) else some (⟨#[]⟩, unlikeH w3)) = some (d, ws) := h
            by_cases hw3 : w3 = []
            · rw [if_pos hw3] at h
              injection h with h
              injection h with h h'
              rw [← h']
              exact ⟨(fun x hx => nomatch hx), Nat.zero_le _⟩
            · rw [if_neg hw3] at h
              injection h with h
              injection h with h h'
              rw [← h']
              exact unlikeH_32 (by rw [q1]; unfold cutN; omega) (want_32 _ _ _ _ _ _ h3 p2 (fun _ hx => nomatch hx))
        · rw [if_neg hw2] at h
          injection h with h
          injection h with h h'
          rw [← h']
          exact unlikeH_32 (by rw [r1]; unfold cutN; omega) (want_32 _ _ _ _ _ _ h2 p1 (fun _ hx => nomatch hx))
    · rw [if_neg hw1] at h
      injection h with h
      injection h with h h'
      rw [← h']
      exact unlikeH_32 (by simp) (want_32 _ _ _ _ _ _ h1 (fun x hx => by rw [List.mem_singleton.1 hx]; exact hr) (fun _ hx => nomatch hx))
end
theorem texts_at {V : World} {B k : Nat} {A : Option Addr} {xs : List ByteArray} (h : Texts V B A k xs) (hk : 0 < k) : ∃ p, A = some p ∧ p.block < B ∧ ∀ i x, xs[i]? = some x → V.cell? (p.add i) = some (.string x) := by
  rcases h.2 with h0 | ⟨p, hA, hB, hc⟩
  · omega
  · refine ⟨p, hA, hB, fun i x hx => ?_⟩
    have hi : i < (strs xs).length := by simp [strs]; exact (List.getElem?_eq_some_iff.1 hx).1
    rw [hc i hi]
    obtain ⟨hi2, e⟩ := List.getElem?_eq_some_iff.1 hx
    simp [strs, e]
theorem kn_small {xs : List ByteArray} : ∀ k x, obGet (knOf xs) k = some x → x.size ≤ 65536 := fun k x h => by
  unfold obGet at h
  cases hf : (knOf xs).find? (fun p => p.1 == k) with
  | none => rw [hf] at h; cases h
  | some p =>
    rw [hf] at h
    have hm := List.mem_of_find?_eq_some hf
    unfold knOf at hm
    obtain ⟨y, hy, rfl⟩ := List.mem_map.1 hm
    have hy2 := of_decide_eq_true (List.mem_filter.1 hy).2
    have : y = x := Option.some.inj h
    rw [← this]
    exact hy2
/-- Both sides' answers. -/
theorem both_load (root : List UInt8) (hr : root.length = 32) (z : Int) (n : Nat) (xs : List ByteArray) (hn : xs.length = n) (hn2 : n ≤ 1048576) (hsm : ∀ x ∈ xs, x.size ≤ 140737488351232) : ∃ (D : ByteArray) (want : List (List UInt8)) (E : Int), want.length ≤ 100000000000000 ∧
    (∀ (V : World) A c, Texts V V.heap.size A (n + 2) (xs ++ roomS) → Calls Try.prog 30 #[.agg (byteCells root).toArray, .int .i64 z, .slice A n c] V (LoadIs D want E V)) ∧
    (∀ (V : World) B r, KnAt V B r (knOf xs) → Calls Try.prog 32 #[.pointer (some ⟨r, 0, none⟩), .agg (byteCells root).toArray, .int .i64 z] V (LoadIs D want E V)) := by
  by_cases hz : z < 0 ∨ 4096 < z
  · exact ⟨⟨#[]⟩, [], 1200, Nat.zero_le _, fun V A c _ => loadBad_any root hr z hz _ V, fun V B r _ => loadFileBad_any r root z hz V⟩
  · obtain ⟨size, rfl⟩ : ∃ k : Nat, z = (k : Int) := ⟨z.toNat, by omega⟩
    have hs : size ≤ 4096 := by omega
    have hge : ksGet (xs.foldl addS []) = obGet (knOf xs) := funext (kn_get xs)
    obtain ⟨⟨D, want, E⟩, hT⟩ : ∃ t, ansT (loadT (obGet (knOf xs)) root size) = t := ⟨_, rfl⟩
    refine ⟨D, want, E, ?_, fun V A c h => ?_, fun V B r h => loadFile_any B r (knOf xs) kn_small root hr size hs D want E hT V h⟩
    · rcases hL : loadT (obGet (knOf xs)) root size with _ | ⟨d, ws⟩
      · rw [hL] at hT
        obtain ⟨-, rfl, -⟩ := ans_none hT
        exact Nat.zero_le _
      · have h3 := (loadT_32 hr hs d ws hL).2
        rw [hL] at hT
        by_cases hw : ws = []
        · subst hw
          obtain ⟨-, rfl, -⟩ := ans_ok hT
          exact Nat.zero_le _
        · obtain ⟨-, rfl, -⟩ := ans_want hw hT
          omega
    · refine (load_any root hr size hs A n c xs (by omega) hn hsm V (fun h0 => ?_)).mono ?_
      · obtain ⟨p, e1, e2, e3⟩ := texts_at h (by omega)
        exact ⟨p, e1, e2, fun i x hx => e3 i x (by rw [List.getElem?_append_left (List.getElem?_eq_some_iff.1 hx).1]; exact hx)⟩
      · rintro e w' ⟨h1, h2⟩
        rw [hge] at h1
        exact load_is hT (fun d ws h => (loadT_32 hr hs d ws h).1) h1 h2
set_option maxRecDepth 100000 in
set_option maxHeartbeats 2000000 in
theorem Loads_law {w : World} (root : List UInt8) (hr : root.length = 32) (z : Int) (A : Option Addr) (n c : Nat) (xs : List ByteArray) (hx : TextsIn w A n c xs) (hn : n ≤ 1048576) :
    Calls Try.prog 7 #[.agg (byteCells root).toArray, .int .i64 z, .slice A n c] w fun e w' => e = .returned (.bool true) ∧ Below w.heap.size w w' := by
  have hlen : xs.length = n := by have := hx.1.1; simp [strs] at this; omega
  obtain ⟨D, want, E, hwl, hLd, hRf⟩ := both_load root hr z n xs hlen hn hx.2.2.2.2
  have hLd' := hid hLd
  have hRf' := hid hRf
  have hwl' := hid hwl
  have hC := hid (hash_cells root hr)
  have hRs := hid (show (Try.prog.info? 33).map (·.size) = some (byteCells root).toArray.size from hC.out.size)
  have hDD : (D.toList == D.toList) = true := beq_self_eq_true _
  obtain ⟨g, hg⟩ : ∃ g, w.heap.size = g := ⟨_, rfl⟩
  obtain ⟨W0, hW0⟩ : ∃ V, w.alloc (.cells (byteCells root).toArray 33) = V := ⟨_, rfl⟩
  have hb0 : Below w.heap.size w W0 := by rw [← hW0]; exact (Below.refl _ _).alloc (Nat.le_refl _) _
  have hX0 := hid (show Holds W0 g 33 (byteCells root) from by rw [← hW0, ← hg]; exact Holds.new w 33 (byteCells root).toArray)
  have hB0 := hid hb0
  have hW0' := hid hW0
  have hg' := hid hg
  have hlen' := hid hlen
  have hn' := hid hn
  have hx' := hid hx
  have hlend := hid (LendTexts_any (w := W0) A n c xs ⟨(hx.1.below hb0).more hb0.size, hx.2⟩)
  clear hwl hLd hRf hlen hn hx hb0 hW0 hg
  go_enter Try.func7, Try.ntmps7
  go_wp2_with (first
    | ((with_reducible refine at_slot (some 3) ?_); refine wpList_run rfl (.pointer (some ⟨g, 0, none⟩)) (w.alloc (.cells (byteCells root).toArray 33)) (by rw [← hg'.out]; kernel_rfl) ?_; rw [hW0'.out])
    | fail)
  refine hlend.out.mono ?_
  rintro e W1 ⟨A1, c1, rfl, hc1, ht1, hb1⟩
  have hX1 := hid (hX0.out.below hb1 hX0.out.lt)
  have hX1h := hid (show W1.heap[g]? = some (.cells (byteCells root).toArray 33 (0, 0)) from hX1.out)
  have hB1 := hid (hB0.out.trans (hb1.mono hB0.out.size))
  have ht1' := hid ht1
  have hc1' := hid hc1
  clear hlend hX0 hB0 hb1 ht1 hc1
  go_wp2_with (first
    | ((with_reducible refine at_slot (some 17) ?_); refine wpList_load_row rfl 33 (.tmp 3) rfl g rfl 33 (byteCells root).toArray (0, 0) _ hX1h.out Try.underlying33 rfl hRs.out ?_)
    | fail)
  refine (hLd'.out W1 A1 c1 ht1'.out).mono ?_
  rintro e W2 ⟨A2, c2, rfl, hH2, hb2⟩
  have hX2 := hid (hX1.out.below hb2 hX1.out.lt)
  have hB2 := hid (hB1.out.trans (hb2.mono hB1.out.size))
  have ht2 := hid ((ht1'.out.below hb2).more hb2.size)
  have hH2' := hid hH2
  clear hX1 hX1h hB1 hb2 hH2 ht1' hLd'
  go_wp2_with fail
  have hb : Below W2.heap.size W2 W2.drew := (Below.refl _ _).drew
  have hX3 := hid (hX2.out.below hb hX2.out.lt)
  have hB3 := hid (hB2.out.trans (hb.mono hB2.out.size))
  have ht3 := hid ((ht2.out.below hb).more hb.size)
  have hH3 := hid ((hH2'.out.below hb).more hb.size)
  clear hX2 hB2 ht2 hH2' hb
  refine wp_region_held_drew (S := fun V => Holds V g 33 (byteCells root)) (by kernel_rfl) (by exact hX3.out) (fun hHeld => ?_)
  generalize W2.drew = W3 at *
  refine tkx 0 (.slice A n c) hHeld ?_; simp only [ly, Act.put]
  refine tkn 2 (.agg (byteCells root).toArray) rfl (by kernel_rfl) (fun _ _ _ h => h) (yieldsIf_load_any (by kernel_rfl) _ _ rfl ⟨g, 0, none⟩ rfl (byteCells root) _ (fun V hS => hS.anyO) Try.underlying33 rfl (by have := hRs.out; rwa [List.size_toArray] at this)) hHeld ?_
  simp only [ly, Act.put]
  refine tkx 3 (.int .i64 z) hHeld ?_; simp only [ly, Act.put]
  refine wpAnyH_ready (rs := [1]) (by kernel_rfl) (by simp) (AllReadyH.cons rfl (fun K hK => ?_) AllReadyH.nil)
  have hK9 := hid hK
  clear hK
  rw [if_pos (by kernel_rfl)]
  simp only [ly1, ly2, ly3]
  go_simp
  have hX9 := hid (show Texts W3 W3.heap.size A n xs from (hx'.out.1.below (hB3.out)).more hB3.out.size)
  refine (newKn_any A n c xs hn'.out hlen'.out hx'.out.2.2.2.2 W3 (fun h0 => texts_at hX9.out h0)).mono ?_
  rintro e W4 ⟨rfl, hk4, hb⟩
  have hX4 := hX3.out.below hb hX3.out.lt
  have hB4 := hid (hB3.out.trans (hb.mono hB3.out.size))
  have ht4 := hid ((ht3.out.below hb).more hb.size)
  have hH4 := hid ((hH3.out.below hb).more hb.size)
  have hk4' := hid hk4
  clear hX3 hB3 ht3 hH3 hX9 hb hk4
  refine hK9.out _ _ hX4 (fun hHeld => ?_)
  clear hK9 K
  refine wpAnyH_ready (rs := [4]) (by kernel_rfl) (by simp) (AllReadyH.cons rfl (fun K hK => ?_) AllReadyH.nil)
  have hK9 := hid hK
  clear hK
  rw [if_pos (by kernel_rfl)]
  simp only [ly1, ly2, ly3]
  go_simp
  refine (hRf'.out W4 _ _ hk4'.out).mono ?_
  rintro e W5 ⟨A5, c5, rfl, hH5, hb⟩
  have hX5 := hX4.below hb hX4.lt
  have hB5 := hid (hB4.out.trans (hb.mono hB4.out.size))
  have ht5 := hid ((ht4.out.below hb).more hb.size)
  have hH4b := hid ((hH4.out.below hb).more hb.size)
  have hH5' := hid hH5
  clear hX4 hB4 ht4 hH4 hH5 hk4' hb
  refine hK9.out _ _ hX5 (fun hHeld => ?_)
  clear hK9 K hX5
  refine tkx 5 (.tuple #[.string D, .slice A5 want.length c5, .int .i64 E]) hHeld ?_; simp only [ly, Act.put]
  refine tkx 6 (.string D) hHeld ?_; simp only [ly, Act.put]
  refine tkx 7 (.slice A5 want.length c5) hHeld ?_; simp only [ly, Act.put]
  refine tkx 8 (.int .i64 E) hHeld ?_; simp only [ly, Act.put]
  refine tkx 9 (.string D) hHeld ?_; simp only [ly, Act.put]
  refine tkx 10 (.slice A5 want.length c5) hHeld ?_; simp only [ly, Act.put]
  refine tkx 11 (.int .i64 E) hHeld ?_; simp only [ly, Act.put]
  refine wpAnyH_done (by kernel_rfl) ?_ _
  clear hHeld
  go_wp2_with fail
  refine (SameHashs_any A2 want.length c2 want A5 c5 W5.heap.size W5 hH4b.out hwl'.out hH5'.out).mono ?_
  rintro e w' ⟨rfl, m, rfl⟩
  skip
  go_wp2_with (go_at_call 13; refine (errNum_any _ _).mono ?_; rintro e w' ⟨rfl, rfl⟩)
  have hX6 := hid (show Texts (W5.drewN m) W5.heap.size A n xs from ((hx'.out.1.below hB5.out).more hB5.out.size).drewN m)
  refine (KeptTexts_any A1 n c1 xs A c W5.heap.size hX6.out (by have := hn'.out; omega) hc1'.out (ht5.out.drewN m)).mono ?_
  rintro e w' ⟨rfl, m2, rfl⟩
  have hB7 := hid (below_drewN hB5.out (m + m2))
  go_wp2_with fail
  refine (awake12_any _).mono ?_
  rintro e w' ⟨rfl, hb⟩
  have hB8 := hid (hB7.out.trans (hb.mono hB7.out.size))
  clear hb
  go_wp2_with fail
  go_ret
  exact ⟨rfl, hB8.out⟩
end Go.Proofs.Ytpjfhbmegabafaa
