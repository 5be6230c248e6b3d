/- Layer 12, the program's side: Load. -/
import Derived.Test.YtpjfhbmegabafaaLFtLp
namespace Go.Proofs.Ytpjfhbmegabafaa
open Go.RowKit
attribute [local irreducible] Sha.compress Sha.blocks Sha.sha Sha.pad

theorem addS_small {ks : List (List UInt8 × ByteArray)} {x : ByteArray} (h : ∀ p ∈ ks, p.2.size ≤ 65536) : ∀ p ∈ addS ks x, p.2.size ≤ 65536 := by
  unfold addS
  split
  · rename_i hx
    by_cases hk : ∀ p ∈ ks, p.1 ≠ obHash x
    · rw [addK_new hk]
      intro p hp
      rcases List.mem_append.1 hp with hp | hp
      · exact h p hp
      · rw [List.mem_singleton.1 hp]; exact hx
    · rw [addK_old hk]; exact h
  · exact h
theorem foldS_small (xs : List ByteArray) : ∀ (ks : List (List UInt8 × ByteArray)), (∀ p ∈ ks, p.2.size ≤ 65536) → ∀ p ∈ xs.foldl addS ks, p.2.size ≤ 65536 := by
  induction xs with
  | nil => exact fun _ h => h
  | cons x xs ih => exact fun ks h => ih _ (addS_small h)
theorem foldS_len (xs : List ByteArray) : ∀ (ks : List (List UInt8 × ByteArray)), (xs.foldl addS ks).length ≤ ks.length + xs.length := by
  induction xs with
  | nil => exact fun _ => Nat.le_refl _
  | cons x xs ih =>
    intro ks
    have := ih (addS ks x)
    have := addS_len ks x
    simp only [List.foldl_cons, List.length_cons]
    omega
theorem own_caps {w : World} {B n c : Nat} {A : Option Addr} {xs : List ByteArray} (h : w.ownsRow B 9 1 (.slice A n c) n (strs xs)) : n ≤ c := by
  rcases h.2 with ⟨hn, h0⟩ | ⟨q, cap, cur, hv, hb, hq, hnc, hcm, hcs, htake⟩
  · omega
  · injection hv with e1 e2 e3
    subst e3
    exact hnc
theorem join_cat (xs : List ByteArray) : (⟨(Lib.join (xs.map (·.data.toList)) (⟨#[]⟩ : ByteArray).data.toList).toArray⟩ : ByteArray) = catT xs := by
  unfold catT Lib.join
  congr 2
  show List.intercalate [] _ = _
  induction xs.map (fun x : ByteArray => x.data.toList) with
  | nil => rfl
  | cons y ys ih =>
    cases ys with
    | nil => simp [List.intercalate]
    | cons z zs =>
      rw [List.flatten_cons, ← ih]
      simp [List.intercalate]
theorem cat_size {xs : List ByteArray} {k : Nat} (h : ∀ x ∈ xs, x.size ≤ k) : ((xs.map (·.data.toList)).flatten).length ≤ xs.length * k := by
  induction xs with
  | nil => simp
  | cons x xs ih =>
    have h1 := ih (fun y hy => h y (List.mem_cons_of_mem _ hy))
    have h2 := h x (List.mem_cons_self ..)
    rw [List.map_cons, List.flatten_cons, List.length_append, List.length_cons, data_length, Nat.add_mul, Nat.one_mul]
    omega
theorem join_any {V : World} {b c : Nat} {A : Option Addr} {xs : List ByteArray} (hA : 0 < xs.length → A = some ⟨b, 0, none⟩) (hT : 0 < xs.length → TxtsAt V b xs) (hc : xs.length ≤ c) (hn : xs.length ≤ 100000) (hs : ∀ x ∈ xs, x.size ≤ 64) :
    Calls Try.prog 57 #[.slice A xs.length c, .string ⟨#[]⟩] V fun e w' => e = .returned (.string (catT xs)) ∧ Below V.heap.size V w' := by
  rcases Nat.eq_zero_or_pos xs.length with h0 | h0
  · obtain rfl := List.eq_nil_of_length_eq_zero h0
    refine (Try.strings_Join_none A c ⟨#[]⟩ V).mono ?_
    rintro e w' ⟨rfl, rfl⟩
    exact ⟨rfl, Below.refl _ _⟩
  · obtain rfl := hA h0
    have h1 := hT h0
    have h2 := cat_size hs
    refine (Try.strings_Join b 0 c xs ⟨#[]⟩ V (fun j x hx => by rw [Nat.zero_add]; exact h1.cell hx) h1.lt (by omega) hc (by
      have e := congrArg (fun s : ByteArray => s.data.toList.length) (join_cat xs)
      unfold catT at e
      simp only at e
      have e2 : (Lib.join (xs.map (·.data.toList)) (⟨#[]⟩ : ByteArray).data.toList).length = ((xs.map (·.data.toList)).flatten).length := e
      omega)).mono ?_
    rintro e w' ⟨rfl, hb⟩
    exact ⟨by rw [join_cat], hb⟩
theorem hash_conv {W : World} {g : Nat} {root : List UInt8} (h32 : root.length = 32) (h : Holds W g 33 (byteCells root)) :
    (convert 51 9 (.slice (some ⟨g, 0, none⟩) 32 32)).run Try.prog W = .ok (.string (hashB root)) W := by
  have := run_convert_bytes_back (P := Try.prog) W 51 9 5 ⟨g, 0, none⟩ 32 root Try.underlying51 Try.underlying5 Try.underlying9 (fun j hj => by
    rw [show (⟨g, 0, none⟩ : Addr).add j = ⟨g, j, none⟩ from by unfold Addr.add; split <;> simp_all, h.cell]
    unfold byteCells
    rw [List.getElem?_map, List.getElem?_eq_getElem hj]
    rfl)
  rw [h32] at this
  exact this
set_option maxRecDepth 100000 in
set_option maxHeartbeats 1000000 in
theorem load_any (root : List UInt8) (hr32 : root.length = 32) (size : Nat) (hsz : size ≤ 4096) (A : Option Addr) (n c : Nat) (xs : List ByteArray) (hn : n ≤ 8796093021952) (hlen : xs.length = n) (hsm : ∀ x ∈ xs, x.size ≤ 140737488351232) (w : World) (hA : 0 < n → ∃ p : Addr, A = some p ∧ p.block < w.heap.size ∧ ∀ i x, xs[i]? = some x → w.cell? (p.add i) = some (.string x)) :
    Calls Try.prog 30 #[.agg (byteCells root).toArray, .int .i64 (size : Int), .slice A n c] w fun e w' => LoadPost w (loadT (ksGet (xs.foldl addS [])) root size) e w' ∧ Below w.heap.size w w' := by
  obtain ⟨g, hg⟩ : ∃ g, w.heap.size = g := ⟨_, rfl⟩
  have hgw := hid hg
  have h32 := hid hr32
  have hsz' := hid hsz
  obtain ⟨ks, hksd⟩ : ∃ ks, xs.foldl addS [] = ks := ⟨_, rfl⟩
  have hks := hid (show ∀ p ∈ ks, p.2.size ≤ 65536 from by rw [← hksd]; exact foldS_small xs [] (fun _ h => nomatch h))
  have hkn := hid (show ks.length ≤ 8796093021952 from by rw [← hksd]; have := foldS_len xs []; have e0 : ([] : List (List UInt8 × ByteArray)).length = 0 := rfl; omega)
  obtain ⟨bl, hbld⟩ : ∃ b, cutN 64 size = b := ⟨_, rfl⟩
  obtain ⟨fn, hfnd⟩ : ∃ f, cutN 8 bl = f := ⟨_, rfl⟩
  have hbl := hid (show bl ≤ 64 from by rw [← hbld]; unfold cutN; omega)
  have hbl2 := hid (show ∀ i, i < bl → i * 64 < size from fun i hi => (cutN_lt (by decide)).1 (by rw [hbld]; exact hi))
  have hfn := hid (show fn ≤ 8 from by have := hbl.out; rw [← hfnd]; unfold cutN; omega)
  have hfn2 := hid (show ∀ i, i < fn → i * 8 < bl from fun i hi => (cutN_lt (by decide)).1 (by rw [hfnd]; exact hi))
  have hfnd' := hid hfnd
  have hP1 := hid (fun V => fpieces_any size 64 (by decide) (by decide) hsz V)
  have hP2 := hid (fun V => fpieces_any bl 8 (by decide) (by decide) (by have := hbl.out; omega) V)
  rw [hbld] at hP1
  rw [hfnd] at hP2
  obtain ⟨Wa, hWa⟩ : ∃ V, w.alloc (.cells (byteCells root).toArray 33) = V := ⟨_, rfl⟩
  have hal := allocs_any [((byteCells root).toArray, 33), (#[.int .i64 (size : Int)], 3)] w
  obtain ⟨W1, hW1⟩ : ∃ V, allocs [((byteCells root).toArray, 33), (#[.int .i64 (size : Int)], 3)] w = V := ⟨_, rfl⟩
  have hWb := hid (show Wa.alloc (.cells #[.int .i64 (size : Int)] 3) = W1 from by rw [← hWa]; exact hW1)
  have hsa := hid (show Wa.heap.size = g + 1 from by rw [← hWa, World.size_alloc, hg])
  have hWa' := hid hWa
  rw [hW1, hg] at hal
  obtain ⟨hs1, hb1, hc1⟩ := hal
  have hW1' := hid hW1
  have hs1' := hid (show W1.heap.size = g + 2 from hs1)
  have hOf := hid (shOf_any A n c xs hn hlen hsm W1 (fun h => by
    obtain ⟨p, e1, e2, e3⟩ := hA h
    exact ⟨p, e1, by rw [hs1'.out]; omega, fun i x hx => (hb1.cell (by rw [add_block]; omega)).trans (e3 i x hx)⟩))
  rw [hksd] at hOf
  have hR1 := hid (show Holds W1 g 33 (byteCells root) from hc1 0 _ rfl)
  have hS1 := hid (show Holds W1 (g + 1) 3 [.int .i64 (size : Int)] from hc1 1 _ rfl)
  have hb1' := hid hb1
  have hi1 : ¬ (size : Int) < 0 := by omega
  have hi2 : ¬ (4096 : Int) < (size : Int) := by omega
  have cS := hS1.out.cO 0 _ rfl
  -- what is answered, level by level
  have ld := hid (show loadT (ksGet ks) root size = (match lvl (ksGet ks) (mayR fn) 0 (pcsL [hashB root]) [] [] with
    | none => none
    | some (a, w) => if w = [] then (match lvl (ksGet ks) (mayI bl) 0 (pcsL a) [] [] with
      | none => none
      | some (b, v) => if v = [] then (match lvl (ksGet ks) (mayB size) 0 (pcsL b) [] [] with
        | none => none
        | some (c, u) => if u = [] then some (catT c, []) else some (⟨#[]⟩, unlikeH u)) else some (⟨#[]⟩, unlikeH v)) else some (⟨#[]⟩, unlikeH w)) from by
    rw [pcsL_hash hr32, ← hfnd, ← hbld]
    rfl)
  have hC := hid (hash_cells root hr32)
  rw [hksd]
  clear hWa hg hsz hksd hbld hfnd hs1 hb1 hc1 hW1 hA hsm hlen hn
  go_enter Try.func30, Try.ntmps30
  go_wp2_with (first
    | ((with_reducible refine at_slot (some 3) ?_); refine wpList_run rfl (.pointer (some ⟨g, 0, none⟩)) (w.alloc (.cells (byteCells root).toArray 33)) (by rw [← hgw.out]; kernel_rfl) ?_; rw [hWa'.out])
    | ((with_reducible refine at_slot (some 4) ?_); refine wpList_run rfl (.pointer (some ⟨g + 1, 0, none⟩)) (Wa.alloc (.cells #[.int .i64 (size : Int)] 3)) (by rw [← hsa.out]; kernel_rfl) ?_; rw [hWb.out])
    | fail)
  refine hOf.out.mono ?_
  rintro e W2 ⟨rfl, M0, A0, c0, hSh⟩
  have hrow := hSh.row
  rw [hs1'.out] at hrow ⊢
  have hsh2 := hid hrow
  have hbB := hSh.bel
  have hb2 := hid (show Below g w W2 from hb1'.out.trans (hbB.mono (by rw [hs1'.out]; omega)))
  have hR2 := hid (hR1.out.below hbB hR1.out.lt)
  have hS2 := hid (hS1.out.below hbB hS1.out.lt)
  obtain ⟨q, hq⟩ : ∃ q, W2.heap.size = q := ⟨_, rfl⟩
  have hgq := hid (show g + 2 < q from by have := hrow.cell.lt; omega)
  have hq' := hid hq
  have cS2 := hS2.out.cO 0 _ rfl
  have hal := allocs_any [(#[.int .i64 (bl : Int)], 3), (#[.int .i64 (fn : Int)], 3), (#[.string (hashB root)], 9), (#[.func (.func 51) #[] #[.pointer (some ⟨q + 1, 0, none⟩)], .func (.func 53) #[] #[.pointer (some ⟨q, 0, none⟩)], .func (.func 54) #[] #[.pointer (some ⟨g + 1, 0, none⟩)]], 106)] W2
  obtain ⟨Wa2, hWa2⟩ : ∃ V, W2.alloc (.cells #[.int .i64 (bl : Int)] 3) = V := ⟨_, rfl⟩
  obtain ⟨Wb2, hWb2⟩ : ∃ V, Wa2.alloc (.cells #[.int .i64 (fn : Int)] 3) = V := ⟨_, rfl⟩
  obtain ⟨Wc2, hWc2⟩ : ∃ V, Wb2.alloc (.cells #[.string (hashB root)] 9) = V := ⟨_, rfl⟩
  obtain ⟨V0, hV0⟩ : ∃ V, Wc2.alloc (.cells #[.func (.func 51) #[] #[.pointer (some ⟨q + 1, 0, none⟩)], .func (.func 53) #[] #[.pointer (some ⟨q, 0, none⟩)], .func (.func 54) #[] #[.pointer (some ⟨g + 1, 0, none⟩)]] 106) = V := ⟨_, rfl⟩
  rw [show allocs [(#[.int .i64 (bl : Int)], 3), (#[.int .i64 (fn : Int)], 3), (#[.string (hashB root)], 9), (#[.func (.func 51) #[] #[.pointer (some ⟨q + 1, 0, none⟩)], .func (.func 53) #[] #[.pointer (some ⟨q, 0, none⟩)], .func (.func 54) #[] #[.pointer (some ⟨g + 1, 0, none⟩)]], 106)] W2 = V0 from by rw [← hV0, ← hWc2, ← hWb2, ← hWa2]; rfl, hq] at hal
  obtain ⟨hs3, hb3, hc3⟩ := hal
  have hsa2 := hid (show Wa2.heap.size = q + 1 from by rw [← hWa2, World.size_alloc, hq])
  have hsb2 := hid (show Wb2.heap.size = q + 2 from by rw [← hWb2, World.size_alloc, hsa2.out])
  have hsc2 := hid (show Wc2.heap.size = q + 3 from by rw [← hWc2, World.size_alloc, hsb2.out])
  have hba2 : Below q W2 Wa2 := by rw [← hWa2, ← hq]; exact (Below.refl _ _).alloc (Nat.le_refl _) _
  have hbb2 : Below q W2 Wb2 := by rw [← hWb2]; exact hba2.alloc (by rw [hsa2.out]; omega) _
  have hRb := hid (show Holds Wb2 g 33 (byteCells root) from hR2.out.below hbb2 (by have := hgq.out; omega))
  have ca2 := hid (show Wa2.cell? ⟨q, 0, none⟩ = some (.int .i64 (bl : Int)) from by rw [← hWa2, ← hq]; exact (Holds.new W2 3 #[.int .i64 (bl : Int)]).cO 0 _ rfl)
  have hWa2' := hid hWa2
  have hWb2' := hid hWb2
  have hWc2' := hid hWc2
  have hV0' := hid hV0
  have hcv := hid (hash_conv h32.out hRb.out)
  have hbgV0 := hid (show Below g w V0 from hb2.out.trans (hb3.mono (by have := hgq.out; omega)))
  have hsV0 := hid (show V0.heap.size = q + 4 from hs3)
  have hcell0 := hid (show V0.cell? ⟨q + 1, 0, none⟩ = some (.int .i64 (fn : Int)) ∧ V0.cell? ⟨q, 0, none⟩ = some (.int .i64 (bl : Int)) ∧ V0.cell? ⟨g + 1, 0, none⟩ = some (.int .i64 (size : Int)) from ⟨(hc3 1 _ rfl).cO 0 _ rfl, (hc3 0 _ rfl).cO 0 _ rfl, (hS2.out.below hb3 (by have := hgq.out; omega)).cO 0 _ rfl⟩)
  have hfs := hid (hc3 3 _ rfl)
  have hr0 := hid (show TxtsAt V0 (q + 2) [hashB root] from ⟨_, _, _, hc3 2 _ rfl, fun i x hx => by
    cases i with
    | zero => simp at hx; subst hx; rfl
    | succ i => simp at hx⟩)
  have hsh0 := hid (show HkRow V0 (g + 2) 0 M0 A0 c0 ks from hsh2.out.on (by rw [hq]; exact hb3))
  clear hq hWa2 hWb2 hWc2 hV0 hs3 hb3 hc3 hba2 hbb2 hrow hbB hSh cS
  go_wp2_with fail
  refine (hP1.out W2).mono ?_
  rintro e w' ⟨rfl, hw'⟩
  obtain rfl := hw'.symm
  clear hw'
  go_wp2_with fail
  rw [hWa2'.out, hq'.out]
  refine (hP2.out Wa2).mono ?_
  rintro e w' ⟨rfl, hw'⟩
  obtain rfl := hw'.symm
  clear hw' cS2
  go_wp2_with (first
    | ((with_reducible refine at_slot (some 31) ?_); rw [hWb2'.out, hsa2.out]; refine wpList_convert rfl 51 9 (.tmp 30) rfl _ (.string (hashB root)) _ rfl (by exact hcv.out) ?_)
    | ((with_reducible refine at_slot (some 32) ?_); refine wpList_run rfl (.slice (some ⟨q + 2, 0, none⟩) 1 1) (Wb2.alloc (.cells #[.string (hashB root)] 9)) (by rw [← hsb2.out]; kernel_rfl) ?_; rw [hWc2'.out])
    | ((with_reducible refine at_slot (some 36) ?_); refine wpList_run rfl (.slice (some ⟨q + 3, 0, none⟩) 3 3) (Wc2.alloc (.cells #[.func (.func 51) #[] #[.pointer (some ⟨q + 1, 0, none⟩)], .func (.func 53) #[] #[.pointer (some ⟨q, 0, none⟩)], .func (.func 54) #[] #[.pointer (some ⟨g + 1, 0, none⟩)]] 106)) (by rw [← hsc2.out]; kernel_rfl) ?_; rw [hV0'.out])
    | fail)
  have hbW0 := hid (Below.refl V0.heap.size V0)
  have hlt := hid (show q + 1 < V0.heap.size ∧ q < V0.heap.size ∧ g + 1 < V0.heap.size from by have := hsV0.out; have := hgq.out; omega)
  have hfs0 := hid (hfs.out.cO 0 _ rfl)
  refine wp_loop_rounds 4 ?_
  have cf0 := hfs0.out
  have hbe := hid (below_any (g + 2) 0 M0 A0 c0 ks hks.out hkn.out 51 (q + 1) (enters_of Try.func51 (by kernel_rfl) rfl) (mayR fn) (some ⟨q + 2, 0, none⟩) 1 1 (q + 2) [hashB root] rfl (fun _ => rfl) (by decide) (fun x hx => by rw [List.mem_singleton.1 hx, hashB_size h32.out]; decide) (by rw [pcsL_hash h32.out]; simp) V0 (fun _ => hr0.out) hsh0.out
    (fun V i x hV' hi hx => by have hV := hbW0.out.trans (hV'.mono hbW0.out.size); exact l1_any V (q + 1) fn i x (by have := hfn.out; omega) (by exact (hV.cell (p := ⟨q + 1, 0, none⟩) hlt.out.1).trans (hcell0.out.1))) (fun i x h => (node_ok (by decide) h).1))
  obtain ⟨T0, hT0⟩ : ∃ T, lvl (ksGet ks) (mayR fn) 0 (pcsL [hashB root]) [] [] = T := ⟨_, rfl⟩
  rw [hT0] at hbe
  have hT0' := hid hT0
  clear hT0
  rw [rounds_succ]
  go_wp2_with fail
  refine hbe.out.mono ?_
  rintro e V1 ⟨hp, hb⟩
  have hbgV1 := hid (hbgV0.out.trans (hb.mono (by have := hbgV0.out.size; rw [hgw.out] at this; exact this)))
  have hbW1 := hid (hbW0.out.trans (hb.mono hbW0.out.size))
  clear hb hbe cf0
  cases T0 with
  | none =>
    unfold BelowPost at hp
    dsimp only at hp
    subst hp
    go_wp2_with fail
    refine bodyPost_ret (results_tmp3 rfl _ _ _) rfl ?_
    refine ⟨?_, by rw [hgw.out]; exact hbgV1.out⟩
    simp only [ld.out, hT0'.out]
    rfl
  | some p =>
    obtain ⟨a1, wt⟩ := p
    unfold BelowPost at hp
    dsimp only at hp
    by_cases hwt : wt = []
    · subst hwt
      rw [if_pos rfl] at hp
      obtain ⟨A1, c1, rfl, hro⟩ := hp
      have hl1 := hid (rootrow_len hfn.out (by rw [← pcsL_hash h32.out]; exact hT0'.out))
      obtain ⟨b1, e1, e2, -, -, -⟩ := own_txts hro
      have ha1 := hid (show (0 < a1.length → A1 = some ⟨b1, 0, none⟩) ∧ (0 < a1.length → TxtsAt V1 b1 a1) from ⟨e1, e2⟩)
      have hca1 := hid (own_caps hro)
      have hsh1 := hid (hsh0.out.on hbW1.out)
      have hfs1 := hid ((hbW1.out.cell (p := ⟨q + 3, 1, none⟩) (by have := hsV0.out; show q + 3 < V0.heap.size; omega)).trans (hfs.out.cO 1 _ rfl))
      clear hro e1 e2
      go_wp2_with fail
      have cf1 := hfs1.out
      have hbe := hid (below_any (g + 2) 0 M0 A0 c0 ks hks.out hkn.out 53 (q) (enters_of Try.func53 (by kernel_rfl) rfl) (mayI bl) A1 a1.length c1 (b1) a1 rfl ha1.out.1 (by have := hl1.out.2.2; omega) (fun x hx => by have := hl1.out.2.1 x hx; omega) (by rw [hl1.out.1]; have := hfn.out; omega) V1 ha1.out.2 hsh1.out
        (fun V i x hV' hi hx => by have hV := hbW1.out.trans (hV'.mono hbW1.out.size); exact l2_any V q bl i x (by have := hbl.out; omega) (hfn2.out i (by rw [hl1.out.1] at hi; exact hi)) (by exact (hV.cell (p := ⟨q, 0, none⟩) hlt.out.2.1).trans (hcell0.out.2.1))) (fun i x h => (node_ok (by decide) h).1))
      obtain ⟨T1, hT1⟩ : ∃ T, lvl (ksGet ks) (mayI bl) 0 (pcsL a1) [] [] = T := ⟨_, rfl⟩
      rw [hT1] at hbe
      have hT1' := hid hT1
      clear hT1
      rw [rounds_succ]
      go_wp2_with fail
      refine hbe.out.mono ?_
      rintro e V2 ⟨hp, hb⟩
      have hbgV2 := hid (hbgV1.out.trans (hb.mono (by have := hbgV1.out.size; rw [hgw.out] at this; exact this)))
      have hbW2 := hid (hbW1.out.trans (hb.mono hbW1.out.size))
      clear hb hbe cf1
      cases T1 with
      | none =>
        unfold BelowPost at hp
        dsimp only at hp
        subst hp
        go_wp2_with fail
        refine bodyPost_ret (results_tmp3 rfl _ _ _) rfl ?_
        refine ⟨?_, by rw [hgw.out]; exact hbgV2.out⟩
        simp only [ld.out, hT0'.out, hT1'.out, ↓reduceIte]
        rfl
      | some p =>
        obtain ⟨a2, wt⟩ := p
        unfold BelowPost at hp
        dsimp only at hp
        by_cases hwt : wt = []
        · subst hwt
          rw [if_pos rfl] at hp
          obtain ⟨A2, c2, rfl, hro⟩ := hp
          have hl2 := hid (rows_len hT1'.out (by rw [hl1.out.1, hfnd'.out]))
          obtain ⟨b2, e1, e2, -, -, -⟩ := own_txts hro
          have ha2 := hid (show (0 < a2.length → A2 = some ⟨b2, 0, none⟩) ∧ (0 < a2.length → TxtsAt V2 b2 a2) from ⟨e1, e2⟩)
          have hca2 := hid (own_caps hro)
          have hsh2 := hid (hsh0.out.on hbW2.out)
          have hfs2 := hid ((hbW2.out.cell (p := ⟨q + 3, 2, none⟩) (by have := hsV0.out; show q + 3 < V0.heap.size; omega)).trans (hfs.out.cO 2 _ rfl))
          clear hro e1 e2
          go_wp2_with fail
          have cf2 := hfs2.out
          have hbe := hid (below_any (g + 2) 0 M0 A0 c0 ks hks.out hkn.out 54 (g + 1) (enters_of Try.func54 (by kernel_rfl) rfl) (mayB size) A2 a2.length c2 (b2) a2 rfl ha2.out.1 (by have := hl2.out.2.2; rw [hl1.out.1] at this; have := hfn.out; omega) (fun x hx => by have := hl2.out.2.1 x hx; omega) (by rw [hl2.out.1]; have := hbl.out; omega) V2 ha2.out.2 hsh2.out
            (fun V i x hV' hi hx => by have hV := hbW2.out.trans (hV'.mono hbW2.out.size); exact l3_any V (g + 1) size i x hsz'.out (hbl2.out i (by rw [hl2.out.1] at hi; exact hi)) (by exact (hV.cell (p := ⟨g + 1, 0, none⟩) hlt.out.2.2).trans (hcell0.out.2.2))) (fun i x h => (blk_ok h).1))
          obtain ⟨T2, hT2⟩ : ∃ T, lvl (ksGet ks) (mayB size) 0 (pcsL a2) [] [] = T := ⟨_, rfl⟩
          rw [hT2] at hbe
          have hT2' := hid hT2
          clear hT2
          rw [rounds_succ]
          go_wp2_with fail
          refine hbe.out.mono ?_
          rintro e V3 ⟨hp, hb⟩
          have hbgV3 := hid (hbgV2.out.trans (hb.mono (by have := hbgV2.out.size; rw [hgw.out] at this; exact this)))
          have hbW3 := hid (hbW2.out.trans (hb.mono hbW2.out.size))
          clear hb hbe cf2
          cases T2 with
          | none =>
            unfold BelowPost at hp
            dsimp only at hp
            subst hp
            go_wp2_with fail
            refine bodyPost_ret (results_tmp3 rfl _ _ _) rfl ?_
            refine ⟨?_, by rw [hgw.out]; exact hbgV3.out⟩
            simp only [ld.out, hT0'.out, hT1'.out, hT2'.out, ↓reduceIte]
            rfl
          | some p =>
            obtain ⟨a3, wt⟩ := p
            unfold BelowPost at hp
            dsimp only at hp
            by_cases hwt : wt = []
            · subst hwt
              rw [if_pos rfl] at hp
              obtain ⟨A3, c3, rfl, hro⟩ := hp
              have hl3 := hid (blks_len hT2'.out)
              obtain ⟨b3, e1, e2, -, -, -⟩ := own_txts hro
              have ha3 := hid (show (0 < a3.length → A3 = some ⟨b3, 0, none⟩) ∧ (0 < a3.length → TxtsAt V3 b3 a3) from ⟨e1, e2⟩)
              have hca3 := hid (own_caps hro)
              clear hro e1 e2
              go_wp2_with fail
              have hj := hid (join_any ha3.out.1 ha3.out.2 hca3.out (by have h1 := hl3.out.1; have h2 := hl2.out.1; rw [h2] at h1; have := hbl.out; omega) hl3.out.2)
              rw [rounds_succ]
              go_wp2_with fail
              refine hj.out.mono ?_
              rintro e V4 ⟨rfl, hb⟩
              have hbgV4 := hid (hbgV3.out.trans (hb.mono (by have := hbgV3.out.size; rw [hgw.out] at this; exact this)))
              clear hb
              go_wp2_with fail
              refine bodyPost_ret (results_tmp3 rfl _ _ _) rfl ?_
              refine ⟨?_, by rw [hgw.out]; exact hbgV4.out⟩
              simp only [ld.out, hT0'.out, hT1'.out, hT2'.out, ↓reduceIte]
              unfold LoadPost
              simp only [↓reduceIte]
              rfl
            · rw [if_neg hwt] at hp
              obtain ⟨A9, m9, c9, rfl, hro, hfr⟩ := hp
              have hro' := hid hro
              have hfr' := hid hfr
              clear hro hfr
              go_wp2_with fail
              refine bodyPost_ret (results_tmp3 rfl _ _ _) rfl ?_
              refine ⟨?_, by rw [hgw.out]; exact hbgV3.out⟩
              simp only [ld.out, hT0'.out, hT1'.out, hT2'.out, ↓reduceIte, if_neg hwt]
              unfold LoadPost
              simp only [if_neg (unlikeH_ne hwt)]
              exact ⟨A9, m9, c9, rfl, hro'.out, fun k hk => Nat.le_trans (by have := hbgV2.out.size; rw [hgw.out] at this ⊢; exact this) (hfr'.out k hk)⟩
        · rw [if_neg hwt] at hp
          obtain ⟨A9, m9, c9, rfl, hro, hfr⟩ := hp
          have hro' := hid hro
          have hfr' := hid hfr
          clear hro hfr
          go_wp2_with fail
          refine bodyPost_ret (results_tmp3 rfl _ _ _) rfl ?_
          refine ⟨?_, by rw [hgw.out]; exact hbgV2.out⟩
          simp only [ld.out, hT0'.out, hT1'.out, ↓reduceIte, if_neg hwt]
          unfold LoadPost
          simp only [if_neg (unlikeH_ne hwt)]
          exact ⟨A9, m9, c9, rfl, hro'.out, fun k hk => Nat.le_trans (by have := hbgV1.out.size; rw [hgw.out] at this ⊢; exact this) (hfr'.out k hk)⟩
    · rw [if_neg hwt] at hp
      obtain ⟨A9, m9, c9, rfl, hro, hfr⟩ := hp
      have hro' := hid hro
      have hfr' := hid hfr
      clear hro hfr
      go_wp2_with fail
      refine bodyPost_ret (results_tmp3 rfl _ _ _) rfl ?_
      refine ⟨?_, by rw [hgw.out]; exact hbgV1.out⟩
      simp only [ld.out, hT0'.out, if_neg hwt]
      unfold LoadPost
      simp only [if_neg (unlikeH_ne hwt)]
      exact ⟨A9, m9, c9, rfl, hro'.out, fun k hk => Nat.le_trans (by have := hbgV0.out.size; rw [hgw.out] at this ⊢; exact this) (hfr'.out k hk)⟩

end Go.Proofs.Ytpjfhbmegabafaa
