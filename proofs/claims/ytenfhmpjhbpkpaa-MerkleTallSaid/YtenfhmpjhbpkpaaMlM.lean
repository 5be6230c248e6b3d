/- The statement MerkleTall: its walk. -/
import Derived.Test.YtenfhmpjhbpkpaaMlL
namespace Go.Proofs.Ytenfhmpjhbpkpaa
open Go.RowKit
open Go.Lib (strCells strCells_length strCells_oneCell)
attribute [local irreducible] Sha.compress Sha.blocks Sha.sha Sha.pad

/-- The root of 2^j like leaves. -/
def tallX (T : ByteArray) (j : Nat) : List ByteArray := List.replicate (2 ^ j) T
def tallH (T : ByteArray) (j : Nat) : List UInt8 := rootH (tallX T j)
theorem tallX_len (T : ByteArray) (j : Nat) : (tallX T j).length = 2 ^ j := List.length_replicate ..
theorem tallX_next (T : ByteArray) (j : Nat) : tallX T (j + 1) = tallX T j ++ tallX T j := by
  unfold tallX
  rw [List.replicate_append_replicate, Nat.pow_succ, Nat.mul_two]
theorem tallH_zero (T : ByteArray) : tallH T 0 = leafH T.data.toList := rootH_one T
theorem tallH_next (T : ByteArray) (j : Nat) : tallH T (j + 1) = nodeH (tallH T j) (tallH T j) := by
  unfold tallH
  rw [tallX_next]
  exact root_parts _ _ j (tallX_len T j) (by rw [tallX_len]; exact Nat.pow_pos (by decide)) (by rw [tallX_len]; exact Nat.le_refl _)
theorem tallH_len (T : ByteArray) (j : Nat) : (tallH T j).length = 32 := rootH_len _

/-- What lies where. -/
structure TallAt (w wr : World) (gw : Nat) (xs : List ByteArray) (h : List UInt8) (A : Option Addr) (n c : Nat) : Prop where
  row : wr.ownsRow w.heap.size 9 1 (.slice A n c) n (strs xs)
  nd : Holds wr gw 28 (byteCells h)
  lg : w.heap.size ≤ gw
  ne : (Value.slice A n c).ownBlock ≠ some gw
  h32 : h.length = 32
  b : Below w.heap.size w wr

section
variable {w wr w' : World} {gw n c : Nat} {xs ys : List ByteArray} {h h' : List UInt8} {A : Option Addr}

theorem TallAt.below (k : TallAt w wr gw xs h A n c) (hb : Below wr.heap.size wr w') : TallAt w w' gw xs h A n c :=
  ⟨row_of_blocks k.row (fun q hq => hb.block q (k.row.lt q hq).2), k.nd.below hb k.nd.lt, k.lg, k.ne, k.h32, k.b.trans (hb.mono k.b.size)⟩

theorem TallAt.texts (k : TallAt w wr gw xs h A n c) : Texts wr wr.heap.size A n xs := At.of_own k.row

theorem TallAt.grow {A' : Option Addr} {n' c' : Nat} (k : TallAt w wr gw xs h A n c) (hown : w'.ownsRow w.heap.size 9 1 (.slice A' n' c') n' (strs ys)) (hb : Below w.heap.size wr w') (hg : wr.grownBy w' (Value.slice A n c).ownBlock) : TallAt w w' gw ys h A' n' c' := by
  have hN := k.nd.grown hg (fun e => k.ne e.symm)
  refine ⟨hown, hN, k.lg, fun e => ?_, k.h32, k.b.trans hb⟩
  rcases hown.2 with ⟨hv, _⟩ | ⟨q, cap, cur, hv, _, hq, _⟩
  · rw [hv] at e; cases e
  · rw [hv] at e
    obtain rfl : q = gw := Option.some.inj e
    unfold Holds at hN
    rw [hN] at hq
    injection hq with hq
    injection hq with _ h2 _
    exact absurd h2 (by decide)

theorem TallAt.next (k : TallAt w wr gw xs h A n c) (hh : h'.length = 32) : TallAt w (wr.setCells gw 0 (byteCells h')) gw xs h' A n c := by
  have hl : (byteCells h').length = (byteCells h).length := by rw [byteCells, List.length_map, hh, byteCells, List.length_map, k.h32]
  refine ⟨row_of_blocks k.row (fun q hq => cells_far _ _ _ _ _ (fun e => k.ne (by rw [hq, e]))), ?_, k.lg, k.ne, hh, below_setCells k.b _ _ _ k.lg⟩
  have h1 := k.nd.put 0 (byteCells h') (by rw [hl]; omega)
  rw [put_all _ _ hl] at h1
  exact h1
end

theorem and_seven (x : Int) : 0 ≤ bits .and .i64 x 7 ∧ bits .and .i64 x 7 ≤ 7 := by
  have e : bits .and .i64 x ((7 : Nat) : Int) = IntKind.i64.wrap ((BitVec.ofInt 64 x &&& BitVec.ofInt 64 ((7 : Nat) : Int)).toNat : Int) := rfl
  have h := Nat.and_le_right (n := (BitVec.ofInt 64 x).toNat) (m := 7)
  have e2 : bits .and .i64 x 7 = bits .and .i64 x ((7 : Nat) : Int) := rfl
  rw [e2, e, BitVec.ofInt_natCast, BitVec.toNat_and, BitVec.toNat_ofNat, Nat.mod_eq_of_lt (by omega), IntWalk.i64_in _ (by omega)]
  omega

set_option maxRecDepth 100000 in
set_option maxHeartbeats 4000000 in
theorem MerkleTall_law {w : World} (leaf : ByteArray) (hl : leaf.size ≤ 140737488351232) (high : Int) (_ : (Lit.int .i64 high).wf = true) :
    Calls Try.prog 6 #[.string leaf, .int .i64 high] w fun e w' => e = .returned (.bool true) ∧ Below w.heap.size w w' := by
  obtain ⟨hh0, hh7⟩ := and_seven high
  obtain ⟨hi, hhi⟩ : ∃ hi : Nat, bits .and .i64 high 7 = (hi : Int) := ⟨(bits .and .i64 high 7).toNat, by omega⟩
  have hi7 : hi ≤ 7 := by omega
  obtain ⟨m, hm⟩ : ∃ m, min leaf.size 60 = m := ⟨_, rfl⟩
  have hmin : min (leaf.size : Int) 60 = (m : Int) := by omega
  have hm60 : m ≤ 60 := by omega
  have hml : m ≤ leaf.size := by omega
  have hto : (m : Int).toNat = m := by omega
  have hm0 : (0 : Int) ≤ (m : Int) := by omega
  have hml' : (m : Int) ≤ (leaf.size : Int) := by omega
  have hTs : (leaf.extract 0 m).size ≤ 60 := by rw [ByteArray.size_extract]; omega
  have hcat1 : 1 + (leaf.extract 0 m).size ≤ 9223372036854775807 := by omega
  have hcat2 : 1 + min m leaf.size ≤ 9223372036854775807 := by omega
  obtain ⟨i0, hi0, hz0, hz1, hz2⟩ := info_parts Try.infoStr
  have hhi' := hid hhi
  have hs0 := hid (fun W => rsha_any (leafT (leaf.extract 0 m)) W (by rw [leafT_size]; omega))
  have hC0 := hid (hash_root (tallX (leaf.extract 0 m) 0))
  unfold hashV at hs0
  rw [leafT_sha, ← tallH_zero] at hs0
  have hX : (⟨#[0]⟩ : ByteArray) ++ leaf.extract 0 m = leafT (leaf.extract 0 m) := rfl
  have hX' := hid hX
  clear hX hm hhi
  go_enter Try.func6, Try.ntmps6
  go_wp2_with fail
  refine (awake9_any _).mono ?_
  rintro e W1 ⟨rfl, hb1⟩
  have hb1' := hid hb1
  clear hb1
  go_wp2_with fail
  rw [hX'.out]
  generalize leaf.extract 0 m = T at *
  refine (hs0.out _).mono ?_
  rintro e W2 ⟨rfl, hb2⟩
  have hB2 := hid (below_up hb2 hb1'.out)
  clear hb2
  rename_i hK1
  refine hK1 _ _ ?_
  clear hK1
  go_wp2_with (first
    | ((with_reducible refine at_slot (some 6) ?_); refine wpList_run rfl (.pointer (some ⟨W2.heap.size, 0, none⟩)) (W2.alloc (.cells z32 28)) (by kernel_rfl) ?_)
    | ((with_reducible refine at_slot none ?_); refine wpList_store_mid rfl 28 (.tmp 6) (.tmp 18) rfl W2.heap.size 0 (byteCells (tallH T 0)).toArray rfl rfl (by exact hC0.out.there W2) (by exact hC0.out.size) (by exact hC0.out.one) ?_; generalize hW : World.setCells _ _ _ _ = W3)
    | fail)
  obtain ⟨hN3, hb3⟩ := HashCells.new (cs := byteCells (tallH T 0)) hC0.out hW
  have hlt2 := hN3.lt
  have hB3 := hid (hB2.out.trans (hb3.mono hB2.out.size))
  have hg2 := hB2.out.size
  have hg3 := hB3.out.size
  have hP4 := hid (show TallAt w (W3.alloc (.cells #[.string T] 9)) W2.heap.size (tallX T 0) (tallH T 0) (some ⟨W3.heap.size, 0, none⟩) (2 ^ 0) 1 from
    ⟨⟨rfl, .inr ⟨W3.heap.size, 1, #[.string T], rfl, hg3, heap_alloc_new _ _, by decide, by decide, rfl, rfl⟩⟩, hN3.alloc _, hg2, (fun e => by have : W3.heap.size = W2.heap.size := Option.some.inj e; omega), tallH_len T 0, hB3.out.alloc hg3 _⟩)
  generalize W2.heap.size = gw at *
  clear hW hN3 hb3 hlt2 hs0 hC0
  go_loopw [7, 8] (fun v i wr => ∃ (j : Nat) (A : Option Addr) (c : Nat), j ≤ hi ∧ i = .int .i64 (j : Int) ∧ v = .slice A (2 ^ j) c ∧ TallAt w wr gw (tallX T j) (tallH T j) A (2 ^ j) c) (fun _ i _ => hi - (intOf i).toNat)
  case atStart => exact ⟨0, _, 1, Nat.zero_le _, rfl, rfl, hP4.out⟩
  case round =>
    obtain ⟨j, A, c, hj, rfl, rfl, hP⟩ := hrel
    have hP' := hid hP
    have hpow := hid (show 2 ^ (j + 1) = 2 ^ j + 2 ^ j by rw [Nat.pow_succ, Nat.mul_two])
    have hp1 : 1 ≤ 2 ^ j := Nat.pow_pos (by decide)
    have hp7 : 2 ^ j ≤ 128 := by
      have := Nat.pow_le_pow_right (n := 2) (by decide) (show j ≤ 7 by omega)
      have e : 2 ^ 7 = 128 := by decide
      omega
    obtain ⟨q, rfl⟩ : ∃ q, A = some ⟨q, 0, none⟩ := by
      rcases hP.row.2 with ⟨hv, h0⟩ | ⟨g, cap, cur, hv, _⟩
      · omega
      · injection hv with h1 _ _
        exact ⟨g, h1⟩
    have hXn := hid (tallX_next T j)
    have hHn := hid (tallH_next T j)
    have h32 := tallH_len T j
    have hC := hid (hash_cells (tallH T j) h32)
    have hCn := hid (hash_cells (tallH T (j + 1)) (tallH_len T (j + 1)))
    have hmr := hid (fun W (h : TallAt w W gw (tallX T j) (tallH T j) (some ⟨q, 0, none⟩) (2 ^ j) c) => mRoot_any (some ⟨q, 0, none⟩) (2 ^ j) c (tallX T j) W h.texts (by omega) (fun s hs => by
      have := List.eq_of_mem_replicate hs
      subst this
      omega))
    have hnext := hid (fun A4 c4 W (h : TallAt w W gw (tallX T (j + 1)) (tallH T j) A4 (2 ^ j + 2 ^ j) c4) => show TallAt w (W.setCells gw 0 (byteCells (tallH T (j + 1)))) gw (tallX T (j + 1)) (tallH T (j + 1)) A4 (2 ^ (j + 1)) c4 from by rw [hpow.out]; exact h.next (tallH_len T (j + 1)))
    have ht := hid (fun W => tT_any (tallH T j) h32 W)
    have hsh := hid (fun W => rsha_any (nodeT (tallH T j) (tallH T j)) W (by rw [nodeT_size _ _ h32 h32]; omega))
    unfold hashV at hsh
    rw [nodeT_sha, ← hHn.out] at hsh
    have hc1 : 1 + (txt (tallH T j)).size ≤ 9223372036854775807 := by rw [txt_size, h32]; decide
    have hc2 : 1 + (txt (tallH T j)).size + (txt (tallH T j)).size ≤ 9223372036854775807 := by rw [txt_size, h32]; decide
    have hnt : ⟨#[1]⟩ ++ txt (tallH T j) ++ txt (tallH T j) = nodeT (tallH T j) (tallH T j) := rfl
    have hnt' := hid hnt
    have hu := Try.underlying28
    have hij : (Try.prog.info? 28).map (·.size) = some (byteCells (tallH T j)).length := hC.out.size'
    have hcl32 := hid (show (byteCells (tallH T j)).length = 32 from hC.out.len)
    unfold hv at hmr ht
    have hhi := hhi'.out
    have hmr2 : ∀ W, TallAt w W gw (tallX T j) (tallH T j) (some ⟨q, 0, none⟩) (2 ^ j) c → Calls Try.prog 18 #[.slice (some ⟨q, 0, none⟩) (2 ^ j) c] W fun e w' => e = .returned (.agg (byteCells (tallH T j)).toArray) ∧ Below W.heap.size W w' := hmr.out
    have hmr := hid hmr2
    clear hmr2 hP hP4 hnt hHn
    generalize byteCells (tallH T (j + 1)) = cn at *
    generalize nodeT (tallH T j) (tallH T j) = NT at *
    generalize txt (tallH T j) = th at *
    generalize 2 ^ j = N at *
    have hPd := hid (hP'.out.below (Below.refl _ _).drew)
    by_cases hlt : j < hi
    · have hlt' : (j : Int) < (hi : Int) := by omega
      go_wp2_with fail
      refine wp_region_held_drew (S := fun W => Holds W gw 28 (byteCells (tallH T j))) (by kernel_rfl) (by exact hPd.out.nd) (fun hHeld => ?_)
      refine wpAnyH_take (i := 0) (v := .slice (some ⟨q, 0, none⟩) N c) rfl (by kernel_rfl) (by kernel_rfl) (by kernel_rfl) (fun _ _ _ h => h) (yieldsIf_move _ rfl rfl rfl) hHeld ?_
      simp only [List.getElem_toArray, List.getElem_cons_succ, List.getElem_cons_zero, Act.put, List.setIfInBounds_toArray, List.set_cons_zero, List.set_cons_succ]
      refine wpAnyH_take (i := 2) (v := .agg (byteCells (tallH T j)).toArray) rfl (by kernel_rfl) (by kernel_rfl) (by kernel_rfl) (fun _ _ _ h => h) (yieldsIf_load_mid (by kernel_rfl) _ _ rfl _ _ rfl _ _ (fun W h => h_all h) hu rfl hij) hHeld ?_
      simp only [List.getElem_toArray, List.getElem_cons_succ, List.getElem_cons_zero, Act.put, List.setIfInBounds_toArray, List.set_cons_zero, List.set_cons_succ]
      refine wpAnyH_ready (rs := [1]) (by kernel_rfl) (by simp) (AllReadyH.cons rfl (fun K hK => ?_) AllReadyH.nil)
      have hK' := hid hK
      clear hK
      rw [if_pos (by kernel_rfl)]
      simp only [List.getElem_toArray, List.getElem_cons_succ, List.getElem_cons_zero]
      go_simp
      refine (hmr.out _ hPd.out).mono ?_
      rintro e W5 ⟨rfl, hb5⟩
      have hQ5 := hid (hPd.out.below hb5)
      clear hb5
      refine hK'.out _ _ (by exact hQ5.out.nd) (fun hHeld => ?_)
      clear hK' K
      refine wpAnyH_take (i := 3) (v := .bool false) rfl (by kernel_rfl) (by kernel_rfl) (by kernel_rfl) (fun _ _ _ h => h) (yieldsIf_neq hC.out (by kernel_rfl) _ _ _ rfl rfl rfl) hHeld ?_
      simp only [List.getElem_toArray, List.getElem_cons_succ, List.getElem_cons_zero, Act.put, List.setIfInBounds_toArray, List.set_cons_zero, List.set_cons_succ]
      refine wpAnyH_done (by kernel_rfl) ?_ _
      have hsz5 := hQ5.out.b.size
      go_wp2_with (at_builtin; refine wpList_appends rfl (.tmp 31) (.tmp 32) 22 9 rfl w.heap.size i0 (.string ByteArray.empty) 1 16 Try.underlying22 hi0 hz0 hz1 hz2 rfl (by decide) (some ⟨q, 0, none⟩) N c (strs (tallX T j)) W5.heap.size (some ⟨q, 0, none⟩) N c (strs (tallX T j)) rfl rfl (fun h => by cases h) (strs_one _) (by omega) (by omega) ?_ ?_ (by first | (simp; done) | (simp; omega) | omega) ?_; rotate_right; intro A4 c4 W6 hown6 hb6 hg6; rotate_left; (exact hQ5.out.row); (exact hQ5.out.texts); have hP6 := hid (hQ5.out.grow (ys := tallX T (j + 1)) (by rw [hXn.out, strs_append]; exact hown6) hb6 hg6); clear hown6 hb6 hg6)
      have hPd := hid (hP6.out.below (Below.refl _ _).drew)
      refine wp_region_held_drew (S := fun _ => True) (by kernel_rfl) (by exact True.intro) (fun hHeld => ?_)
      refine wpAnyH_ready (rs := [0, 3]) (by kernel_rfl) (by simp) (AllReadyH.cons rfl (fun K hK => ?_) (AllReadyH.cons rfl (fun K hK => ?_) AllReadyH.nil))
      · have hK' := hid hK
        clear hK
        rw [if_pos (by kernel_rfl)]
        simp only [List.getElem_toArray, List.getElem_cons_succ, List.getElem_cons_zero]
        refine wp_load_mid _ _ rfl gw 0 rfl _ _ (h_all hPd.out.nd) hu rfl hij ?_
        refine hK'.out _ _ (by exact True.intro) (fun hHeld => ?_)
        clear hK' K
        refine wpAnyH_ready (rs := [1, 3]) (by kernel_rfl) (by simp) (AllReadyH.cons rfl (fun K hK => ?_) (AllReadyH.cons rfl (fun K hK => ?_) AllReadyH.nil))
        · have hK' := hid hK
          clear hK
          rw [if_pos (by kernel_rfl)]
          simp only [List.getElem_toArray, List.getElem_cons_succ, List.getElem_cons_zero]
          go_simp
          refine (ht.out _).mono ?_
          rintro e W5 ⟨rfl, hb5⟩
          have hP5 := hid (hPd.out.below hb5)
          clear hb5
          refine hK'.out _ _ (by exact True.intro) (fun hHeld => ?_)
          clear hK' K
          refine wpAnyH_take (i := 2) (v := .string (⟨#[1]⟩ ++ th)) rfl (by kernel_rfl) (by kernel_rfl) (by kernel_rfl) (fun _ _ _ h => h) (.inl ⟨by kernel_rfl, fun w _ => by go_simp⟩) hHeld ?_
          simp only [List.getElem_toArray, List.getElem_cons_succ, List.getElem_cons_zero, Act.put, List.setIfInBounds_toArray, List.set_cons_zero, List.set_cons_succ]
          refine wpAnyH_ready (rs := [3]) (by kernel_rfl) (by simp) (AllReadyH.cons rfl (fun K hK => ?_) AllReadyH.nil)
          have hK' := hid hK
          clear hK
          rw [if_pos (by kernel_rfl)]
          simp only [List.getElem_toArray, List.getElem_cons_succ, List.getElem_cons_zero]
          refine wp_load_mid _ _ rfl gw 0 rfl _ _ (h_all hP5.out.nd) hu rfl hij ?_
          refine hK'.out _ _ (by exact True.intro) (fun hHeld => ?_)
          clear hK' K
          refine wpAnyH_ready (rs := [4]) (by kernel_rfl) (by simp) (AllReadyH.cons rfl (fun K hK => ?_) AllReadyH.nil)
          have hK' := hid hK
          clear hK
          rw [if_pos (by kernel_rfl)]
          simp only [List.getElem_toArray, List.getElem_cons_succ, List.getElem_cons_zero]
          go_simp
          refine (ht.out _).mono ?_
          rintro e W7 ⟨rfl, hb7⟩
          have hP7 := hid (hP5.out.below hb7)
          clear hb7
          refine hK'.out _ _ (by exact True.intro) (fun hHeld => ?_)
          clear hK' K
          refine wpAnyH_take (i := 5) (v := .string (⟨#[1]⟩ ++ th ++ th)) rfl (by kernel_rfl) (by kernel_rfl) (by kernel_rfl) (fun _ _ _ h => h) (.inl ⟨by kernel_rfl, fun w _ => by go_simp⟩) hHeld ?_
          simp only [List.getElem_toArray, List.getElem_cons_succ, List.getElem_cons_zero, Act.put, List.setIfInBounds_toArray, List.set_cons_zero, List.set_cons_succ]
          refine wpAnyH_ready (rs := [6]) (by kernel_rfl) (by simp) (AllReadyH.cons rfl (fun K hK => ?_) AllReadyH.nil)
          have hK' := hid hK
          clear hK
          rw [if_pos (by kernel_rfl)]
          simp only [List.getElem_toArray, List.getElem_cons_succ, List.getElem_cons_zero]
          go_simp
          rw [hnt'.out]
          refine (hsh.out _).mono ?_
          rintro e W8 ⟨rfl, hb8⟩
          have hP8 := hid (hP7.out.below hb8)
          clear hb8
          refine hK'.out _ _ (by exact True.intro) (fun hHeld => ?_)
          clear hK' K
          refine wpAnyH_ready (rs := [7]) (by kernel_rfl) (by simp) (AllReadyH.cons rfl (fun K hK => ?_) AllReadyH.nil)
          have hK' := hid hK
          clear hK
          rw [if_pos (by kernel_rfl)]
          simp only [List.getElem_toArray, List.getElem_cons_succ, List.getElem_cons_zero]
          refine wp_store_mid _ _ _ rfl gw 0 cn.toArray rfl rfl (by exact hCn.out.there' hP8.out.nd hcl32.out) (by exact hCn.out.size) (by exact hCn.out.one) ?_
          have hP9 := hid (hnext.out _ _ _ hP8.out)
          generalize hW9 : World.setCells _ _ _ _ = W9
          have e9 : W8.setCells gw 0 cn = W9 := hW9
          rw [e9] at hP9
          clear hW9 e9
          refine hK'.out _ _ (by exact True.intro) (fun hHeld => ?_)
          clear hK' K
          refine wpAnyH_done (by kernel_rfl) ?_ _
          go_wp2_with fail
          go_roundw
          case rel => exact ⟨j + 1, A4, c4, by omega, by go_num, by rw [hpow.out], hP9.out⟩
          case measure => simp [intOf]; omega
        · have hK' := hid hK
          clear hK
          rw [if_pos (by kernel_rfl)]
          simp only [List.getElem_toArray, List.getElem_cons_succ, List.getElem_cons_zero]
          refine wp_load_mid _ _ rfl gw 0 rfl _ _ (h_all hPd.out.nd) hu rfl hij ?_
          refine hK'.out _ _ (by exact True.intro) (fun hHeld => ?_)
          clear hK' K
          refine wpAnyH_ready (rs := [1]) (by kernel_rfl) (by simp) (AllReadyH.cons rfl (fun K hK => ?_) AllReadyH.nil)
          have hK' := hid hK
          clear hK
          rw [if_pos (by kernel_rfl)]
          simp only [List.getElem_toArray, List.getElem_cons_succ, List.getElem_cons_zero]
          go_simp
          refine (ht.out _).mono ?_
          rintro e W5 ⟨rfl, hb5⟩
          have hP5 := hid (hPd.out.below hb5)
          clear hb5
          refine hK'.out _ _ (by exact True.intro) (fun hHeld => ?_)
          clear hK' K
          refine wpAnyH_take (i := 2) (v := .string (⟨#[1]⟩ ++ th)) rfl (by kernel_rfl) (by kernel_rfl) (by kernel_rfl) (fun _ _ _ h => h) (.inl ⟨by kernel_rfl, fun w _ => by go_simp⟩) hHeld ?_
          simp only [List.getElem_toArray, List.getElem_cons_succ, List.getElem_cons_zero, Act.put, List.setIfInBounds_toArray, List.set_cons_zero, List.set_cons_succ]
          refine wpAnyH_ready (rs := [4]) (by kernel_rfl) (by simp) (AllReadyH.cons rfl (fun K hK => ?_) AllReadyH.nil)
          have hK' := hid hK
          clear hK
          rw [if_pos (by kernel_rfl)]
          simp only [List.getElem_toArray, List.getElem_cons_succ, List.getElem_cons_zero]
          go_simp
          refine (ht.out _).mono ?_
          rintro e W7 ⟨rfl, hb7⟩
          have hP7 := hid (hP5.out.below hb7)
          clear hb7
          refine hK'.out _ _ (by exact True.intro) (fun hHeld => ?_)
          clear hK' K
          refine wpAnyH_take (i := 5) (v := .string (⟨#[1]⟩ ++ th ++ th)) rfl (by kernel_rfl) (by kernel_rfl) (by kernel_rfl) (fun _ _ _ h => h) (.inl ⟨by kernel_rfl, fun w _ => by go_simp⟩) hHeld ?_
          simp only [List.getElem_toArray, List.getElem_cons_succ, List.getElem_cons_zero, Act.put, List.setIfInBounds_toArray, List.set_cons_zero, List.set_cons_succ]
          refine wpAnyH_ready (rs := [6]) (by kernel_rfl) (by simp) (AllReadyH.cons rfl (fun K hK => ?_) AllReadyH.nil)
          have hK' := hid hK
          clear hK
          rw [if_pos (by kernel_rfl)]
          simp only [List.getElem_toArray, List.getElem_cons_succ, List.getElem_cons_zero]
          go_simp
          rw [hnt'.out]
          refine (hsh.out _).mono ?_
          rintro e W8 ⟨rfl, hb8⟩
          have hP8 := hid (hP7.out.below hb8)
          clear hb8
          refine hK'.out _ _ (by exact True.intro) (fun hHeld => ?_)
          clear hK' K
          refine wpAnyH_ready (rs := [7]) (by kernel_rfl) (by simp) (AllReadyH.cons rfl (fun K hK => ?_) AllReadyH.nil)
          have hK' := hid hK
          clear hK
          rw [if_pos (by kernel_rfl)]
          simp only [List.getElem_toArray, List.getElem_cons_succ, List.getElem_cons_zero]
          refine wp_store_mid _ _ _ rfl gw 0 cn.toArray rfl rfl (by exact hCn.out.there' hP8.out.nd hcl32.out) (by exact hCn.out.size) (by exact hCn.out.one) ?_
          have hP9 := hid (hnext.out _ _ _ hP8.out)
          generalize hW9 : World.setCells _ _ _ _ = W9
          have e9 : W8.setCells gw 0 cn = W9 := hW9
          rw [e9] at hP9
          clear hW9 e9
          refine hK'.out _ _ (by exact True.intro) (fun hHeld => ?_)
          clear hK' K
          refine wpAnyH_done (by kernel_rfl) ?_ _
          go_wp2_with fail
          go_roundw
          case rel => exact ⟨j + 1, A4, c4, by omega, by go_num, by rw [hpow.out], hP9.out⟩
          case measure => simp [intOf]; omega
      · have hK' := hid hK
        clear hK
        rw [if_pos (by kernel_rfl)]
        simp only [List.getElem_toArray, List.getElem_cons_succ, List.getElem_cons_zero]
        refine wp_load_mid _ _ rfl gw 0 rfl _ _ (h_all hPd.out.nd) hu rfl hij ?_
        refine hK'.out _ _ (by exact True.intro) (fun hHeld => ?_)
        clear hK' K
        refine wpAnyH_ready (rs := [0]) (by kernel_rfl) (by simp) (AllReadyH.cons rfl (fun K hK => ?_) AllReadyH.nil)
        have hK' := hid hK
        clear hK
        rw [if_pos (by kernel_rfl)]
        simp only [List.getElem_toArray, List.getElem_cons_succ, List.getElem_cons_zero]
        refine wp_load_mid _ _ rfl gw 0 rfl _ _ (h_all hPd.out.nd) hu rfl hij ?_
        refine hK'.out _ _ (by exact True.intro) (fun hHeld => ?_)
        clear hK' K
        refine wpAnyH_ready (rs := [1]) (by kernel_rfl) (by simp) (AllReadyH.cons rfl (fun K hK => ?_) AllReadyH.nil)
        have hK' := hid hK
        clear hK
        rw [if_pos (by kernel_rfl)]
        simp only [List.getElem_toArray, List.getElem_cons_succ, List.getElem_cons_zero]
        go_simp
        refine (ht.out _).mono ?_
        rintro e W5 ⟨rfl, hb5⟩
        have hP5 := hid (hPd.out.below hb5)
        clear hb5
        refine hK'.out _ _ (by exact True.intro) (fun hHeld => ?_)
        clear hK' K
        refine wpAnyH_take (i := 2) (v := .string (⟨#[1]⟩ ++ th)) rfl (by kernel_rfl) (by kernel_rfl) (by kernel_rfl) (fun _ _ _ h => h) (.inl ⟨by kernel_rfl, fun w _ => by go_simp⟩) hHeld ?_
        simp only [List.getElem_toArray, List.getElem_cons_succ, List.getElem_cons_zero, Act.put, List.setIfInBounds_toArray, List.set_cons_zero, List.set_cons_succ]
        refine wpAnyH_ready (rs := [4]) (by kernel_rfl) (by simp) (AllReadyH.cons rfl (fun K hK => ?_) AllReadyH.nil)
        have hK' := hid hK
        clear hK
        rw [if_pos (by kernel_rfl)]
        simp only [List.getElem_toArray, List.getElem_cons_succ, List.getElem_cons_zero]
        go_simp
        refine (ht.out _).mono ?_
        rintro e W7 ⟨rfl, hb7⟩
        have hP7 := hid (hP5.out.below hb7)
        clear hb7
        refine hK'.out _ _ (by exact True.intro) (fun hHeld => ?_)
        clear hK' K
        refine wpAnyH_take (i := 5) (v := .string (⟨#[1]⟩ ++ th ++ th)) rfl (by kernel_rfl) (by kernel_rfl) (by kernel_rfl) (fun _ _ _ h => h) (.inl ⟨by kernel_rfl, fun w _ => by go_simp⟩) hHeld ?_
        simp only [List.getElem_toArray, List.getElem_cons_succ, List.getElem_cons_zero, Act.put, List.setIfInBounds_toArray, List.set_cons_zero, List.set_cons_succ]
        refine wpAnyH_ready (rs := [6]) (by kernel_rfl) (by simp) (AllReadyH.cons rfl (fun K hK => ?_) AllReadyH.nil)
        have hK' := hid hK
        clear hK
        rw [if_pos (by kernel_rfl)]
        simp only [List.getElem_toArray, List.getElem_cons_succ, List.getElem_cons_zero]
        go_simp
        rw [hnt'.out]
        refine (hsh.out _).mono ?_
        rintro e W8 ⟨rfl, hb8⟩
        have hP8 := hid (hP7.out.below hb8)
        clear hb8
        refine hK'.out _ _ (by exact True.intro) (fun hHeld => ?_)
        clear hK' K
        refine wpAnyH_ready (rs := [7]) (by kernel_rfl) (by simp) (AllReadyH.cons rfl (fun K hK => ?_) AllReadyH.nil)
        have hK' := hid hK
        clear hK
        rw [if_pos (by kernel_rfl)]
        simp only [List.getElem_toArray, List.getElem_cons_succ, List.getElem_cons_zero]
        refine wp_store_mid _ _ _ rfl gw 0 cn.toArray rfl rfl (by exact hCn.out.there' hP8.out.nd hcl32.out) (by exact hCn.out.size) (by exact hCn.out.one) ?_
        have hP9 := hid (hnext.out _ _ _ hP8.out)
        generalize hW9 : World.setCells _ _ _ _ = W9
        have e9 : W8.setCells gw 0 cn = W9 := hW9
        rw [e9] at hP9
        clear hW9 e9
        refine hK'.out _ _ (by exact True.intro) (fun hHeld => ?_)
        clear hK' K
        refine wpAnyH_done (by kernel_rfl) ?_ _
        go_wp2_with fail
        go_roundw
        case rel => exact ⟨j + 1, A4, c4, by omega, by go_num, by rw [hpow.out], hP9.out⟩
        case measure => simp [intOf]; omega
    · obtain rfl : j = hi := by omega
      have hno : ¬ (j : Int) < (j : Int) := by omega
      have hm0 := hid (fun W => mRoot_any none 0 0 [] W ⟨rfl, .inl rfl⟩ (by decide) (fun s hs => by cases hs))
      have hs0 := hid (fun W => rsha_any ⟨#[]⟩ W (by decide))
      have hC0 := hid (hash_root [])
      have e0 : hashV ((⟨#[]⟩ : ByteArray).data.toList) = hv (rootH []) := rfl
      rw [e0] at hs0
      clear e0
      unfold hv at hm0 hs0
      obtain ⟨c0, hc0⟩ : ∃ c0, byteCells (rootH []) = c0 := ⟨_, rfl⟩
      rw [hc0] at hm0 hs0 hC0
      clear hc0
      go_wp2_with fail
      refine wp_region_held_drew (S := fun W => Holds W gw 28 (byteCells (tallH T j))) (by kernel_rfl) (by exact hPd.out.nd) (fun hHeld => ?_)
      refine wpAnyH_take (i := 0) (v := .slice (some ⟨q, 0, none⟩) N c) rfl (by kernel_rfl) (by kernel_rfl) (by kernel_rfl) (fun _ _ _ h => h) (yieldsIf_move _ rfl rfl rfl) hHeld ?_
      simp only [List.getElem_toArray, List.getElem_cons_succ, List.getElem_cons_zero, Act.put, List.setIfInBounds_toArray, List.set_cons_zero, List.set_cons_succ]
      refine wpAnyH_take (i := 2) (v := .agg (byteCells (tallH T j)).toArray) rfl (by kernel_rfl) (by kernel_rfl) (by kernel_rfl) (fun _ _ _ h => h) (yieldsIf_load_mid (by kernel_rfl) _ _ rfl _ _ rfl _ _ (fun W h => h_all h) hu rfl hij) hHeld ?_
      simp only [List.getElem_toArray, List.getElem_cons_succ, List.getElem_cons_zero, Act.put, List.setIfInBounds_toArray, List.set_cons_zero, List.set_cons_succ]
      refine wpAnyH_ready (rs := [1]) (by kernel_rfl) (by simp) (AllReadyH.cons rfl (fun K hK => ?_) AllReadyH.nil)
      have hK' := hid hK
      clear hK
      rw [if_pos (by kernel_rfl)]
      simp only [List.getElem_toArray, List.getElem_cons_succ, List.getElem_cons_zero]
      go_simp
      refine (hmr.out _ hPd.out).mono ?_
      rintro e W5 ⟨rfl, hb5⟩
      have hQ5 := hid (hPd.out.below hb5)
      clear hb5
      refine hK'.out _ _ (by exact hQ5.out.nd) (fun hHeld => ?_)
      clear hK' K
      refine wpAnyH_take (i := 3) (v := .bool true) rfl (by kernel_rfl) (by kernel_rfl) (by kernel_rfl) (fun _ _ _ h => h) (yieldsIf_eql hC.out (by kernel_rfl) _ _ _ rfl rfl rfl) hHeld ?_
      simp only [List.getElem_toArray, List.getElem_cons_succ, List.getElem_cons_zero, Act.put, List.setIfInBounds_toArray, List.set_cons_zero, List.set_cons_succ]
      refine wpAnyH_take (i := 4) (v := .bool true) rfl (by kernel_rfl) (by kernel_rfl) (by kernel_rfl) (fun _ _ _ h => h) (yieldsIf_move _ rfl rfl rfl) hHeld ?_
      simp only [List.getElem_toArray, List.getElem_cons_succ, List.getElem_cons_zero, Act.put, List.setIfInBounds_toArray, List.set_cons_zero, List.set_cons_succ]
      refine wpAnyH_ready (rs := [5]) (by kernel_rfl) (by simp) (AllReadyH.cons rfl (fun K hK => ?_) AllReadyH.nil)
      have hK' := hid hK
      clear hK
      rw [if_pos (by kernel_rfl)]
      simp only [List.getElem_toArray, List.getElem_cons_succ, List.getElem_cons_zero]
      go_simp
      refine (hm0.out _).mono ?_
      rintro e W6 ⟨rfl, hb6⟩
      have hQ6 := hid (hQ5.out.below hb6)
      clear hb6
      refine hK'.out _ _ (by exact hQ6.out.nd) (fun hHeld => ?_)
      clear hK' K
      refine wpAnyH_ready (rs := [6]) (by kernel_rfl) (by simp) (AllReadyH.cons rfl (fun K hK => ?_) AllReadyH.nil)
      have hK' := hid hK
      clear hK
      rw [if_pos (by kernel_rfl)]
      simp only [List.getElem_toArray, List.getElem_cons_succ, List.getElem_cons_zero]
      go_simp
      refine (hs0.out _).mono ?_
      rintro e W7 ⟨rfl, hb7⟩
      have hQ7 := hid (hQ6.out.below hb7)
      clear hb7
      refine hK'.out _ _ (by exact hQ7.out.nd) (fun hHeld => ?_)
      clear hK' K
      refine wpAnyH_take (i := 7) (v := .bool true) rfl (by kernel_rfl) (by kernel_rfl) (by kernel_rfl) (fun _ _ _ h => h) (yieldsIf_eql hC0.out (by kernel_rfl) _ _ _ rfl rfl rfl) hHeld ?_
      simp only [List.getElem_toArray, List.getElem_cons_succ, List.getElem_cons_zero, Act.put, List.setIfInBounds_toArray, List.set_cons_zero, List.set_cons_succ]
      refine wpAnyH_take (i := 8) (v := .bool true) rfl (by kernel_rfl) (by kernel_rfl) (by kernel_rfl) (fun _ _ _ h => h) (yieldsIf_pick _ _ _ rfl rfl rfl rfl) hHeld ?_
      simp only [List.getElem_toArray, List.getElem_cons_succ, List.getElem_cons_zero, Act.put, List.setIfInBounds_toArray, List.set_cons_zero, List.set_cons_succ]
      refine wpAnyH_take (i := 9) (v := .bool true) rfl (by kernel_rfl) (by kernel_rfl) (by kernel_rfl) (fun _ _ _ h => h) (yieldsIf_move _ rfl rfl rfl) hHeld ?_
      simp only [List.getElem_toArray, List.getElem_cons_succ, List.getElem_cons_zero, Act.put, List.setIfInBounds_toArray, List.set_cons_zero, List.set_cons_succ]
      refine wpAnyH_ready (rs := [10]) (by kernel_rfl) (by simp) (AllReadyH.cons rfl (fun K hK => ?_) AllReadyH.nil)
      have hK' := hid hK
      clear hK
      rw [if_pos (by kernel_rfl)]
      simp only [List.getElem_toArray, List.getElem_cons_succ, List.getElem_cons_zero]
      go_simp
      refine (errNum_any _ _).mono ?_
      rintro e w' ⟨rfl, rfl⟩
      refine hK'.out _ _ (by exact hQ7.out.nd) (fun hHeld => ?_)
      clear hK' K
      refine wpAnyH_take (i := 11) (v := .bool true) rfl (by kernel_rfl) (by kernel_rfl) (by kernel_rfl) (fun _ _ _ h => h) (.inl ⟨by kernel_rfl, fun w _ => by go_simp⟩) hHeld ?_
      simp only [List.getElem_toArray, List.getElem_cons_succ, List.getElem_cons_zero, Act.put, List.setIfInBounds_toArray, List.set_cons_zero, List.set_cons_succ]
      refine wpAnyH_take (i := 12) (v := .bool true) rfl (by kernel_rfl) (by kernel_rfl) (by kernel_rfl) (fun _ _ _ h => h) (yieldsIf_pick _ _ _ rfl rfl rfl rfl) hHeld ?_
      simp only [List.getElem_toArray, List.getElem_cons_succ, List.getElem_cons_zero, Act.put, List.setIfInBounds_toArray, List.set_cons_zero, List.set_cons_succ]
      refine wpAnyH_take (i := 13) (v := .bool true) rfl (by kernel_rfl) (by kernel_rfl) (by kernel_rfl) (fun _ _ _ h => h) (yieldsIf_assign _ rfl rfl rfl) hHeld ?_
      simp only [List.getElem_toArray, List.getElem_cons_succ, List.getElem_cons_zero, Act.put, List.setIfInBounds_toArray, List.set_cons_zero, List.set_cons_succ]
      refine wpAnyH_done (by kernel_rfl) ?_ _
      go_wp2_with fail
      go_ret
      exact ⟨rfl, hQ7.out.b⟩

end Go.Proofs.Ytenfhmpjhbpkpaa
