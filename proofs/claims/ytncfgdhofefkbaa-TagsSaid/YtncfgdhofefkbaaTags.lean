/- The statement Tags: its walk. -/
import Derived.Test.YtncfgdhofefkbaaAwake2
namespace Go.Proofs.Ytncfgdhofefkbaa
open Go.RowKit
attribute [local irreducible] Sha.compress Sha.blocks Sha.sha Sha.pad

set_option maxRecDepth 100000 in
set_option maxHeartbeats 1000000 in
theorem Tags_law {w : World} (t : Int) (_ : (Lit.int .i64 t).wf = true) (A : Option Addr) (n c : Nat) (xs : List ByteArray) (hx : TextsIn w A n c xs) :
    Calls Try.prog 7 #[.int .i64 t, .slice A n c] w fun e w' => e = .returned (.bool true) ∧ Below w.heap.size w w' := by
  obtain ⟨hX, -, hn16, -, hsm⟩ := id hx
  have hn : n ≤ 10000000000000 := by omega
  have hx' := hid hx
  have hX' := hid hX
  have hsm' := hid hsm
  have hlen := hid hX.len
  obtain ⟨cs, hC, htag⟩ := tag_hash t xs
  obtain ⟨r, hr⟩ : ∃ r, (tagAns t xs).2 = r := ⟨_, rfl⟩
  have hC' := hid hC
  have htag' := hid htag
  have hr' := hid hr
  clear hx hX hsm htag hr hC
  go_enter Try.func7, Try.ntmps7
  go_wp2_with fail
  refine (LendTexts_any A n c xs hx'.out).mono ?_
  rintro e W1 ⟨A1, c1, rfl, hc1, hL, hb1⟩
  have hL' := hid hL
  have hb1' := hid hb1
  have hc1' := hid hc1
  have hF := hid (hL.front hlen.out)
  clear hL hb1 hc1
  go_wp2_with fail
  refine (tagSum_any t A1 n c1 xs W1 hF.out hn hsm'.out).mono ?_
  rw [htag'.out, hr'.out]
  rintro e W2 ⟨rfl, hb2⟩
  have hb2' := hid hb2
  clear hb2
  rename_i hK1
  refine hK1 _ _ ?_
  go_wp2_with (first
    | ((with_reducible refine at_slot (some 6) ?_); refine wpList_run rfl (.pointer (some ⟨W2.heap.size, 0, none⟩)) (W2.alloc (.cells z32 28)) (by kernel_rfl) ?_)
    | ((with_reducible refine at_slot none ?_); refine wpList_store_mid rfl 28 (.tmp 6) (.tmp 16) rfl W2.heap.size 0 cs.toArray rfl rfl (by exact hC'.out.there W2) (by exact hC'.out.size) (by exact hC'.out.one) ?_; generalize hW3 : World.setCells _ _ _ _ = W3))
  obtain ⟨hH3, hb3⟩ := hC'.out.new hW3
  have hH3' := hid hH3
  have hb3' := hid (below_up hb3 (below_up hb2'.out (hb1'.out)))
  have hb13 := hid (below_up hb3 hb2'.out)
  clear hW3 hH3 hb3 hK1
  refine (refTag_any t A n c xs W3 ((hX'.out.below hb3'.out).more hb3'.out.size) hn hsm'.out).mono ?_
  rw [htag'.out, hr'.out]
  rintro e W4 ⟨rfl, hb4⟩
  have hb4' := hid hb4
  clear hb4
  rename_i hK2
  refine hK2 _ _ ?_
  have heq := hC'.out.eql
  have hgd := hC'.out.guard
  go_wp2_with (first
    | ((with_reducible refine at_slot (some 8) ?_); refine wpList_run rfl (.pointer (some ⟨W4.heap.size, 0, none⟩)) (W4.alloc (.cells z32 28)) (by kernel_rfl) ?_)
    | ((with_reducible refine at_slot none ?_); refine wpList_store_mid rfl 28 (.tmp 8) (.tmp 22) rfl W4.heap.size 0 cs.toArray rfl rfl (by exact hC'.out.there W4) (by exact hC'.out.size) (by exact hC'.out.one) ?_; generalize hW5 : World.setCells _ _ _ _ = W5; have hN5 := hid (hC'.out.new hW5); have hr8 := hid hN5.out.1.rangeAll; have hb5 := hid (below_up hN5.out.2 hb4'.out); have hr6 := hid (hH3'.out.below hb5.out hH3'.out.lt).rangeAll; clear hW5)
    | ((with_reducible refine at_slot (some 24) ?_); refine wpList_load_mid rfl 28 (.tmp 6) rfl W2.heap.size 0 rfl cs _ (by exact hr6.out) Try.underlying28 rfl (by exact hC'.out.size') ?_)
    | ((with_reducible refine at_slot (some 25) ?_); refine wpList_load_mid rfl 28 (.tmp 8) rfl W4.heap.size 0 rfl cs _ (by exact hr8.out) Try.underlying28 rfl (by exact hC'.out.size') ?_)
    | (go_at_call 18; refine (errNum_any _ _).mono ?_; rintro e w' ⟨rfl, rfl⟩)
    | fail)
  refine (KeptTexts_any A1 n c1 xs A c W1.heap.size (((hX'.out.below hb1'.out).more hb1'.out.size).below (below_up hb5.out hb13.out)) (by omega) hc1'.out (hL'.out.below (below_up hb5.out hb13.out))).mono ?_
  rintro e W6 ⟨rfl, m6, hm6⟩
  have hb6 := hid (show Below W5.heap.size W5 W6 from hm6 ▸ below_drewN (Below.refl _ _) m6)
  clear hm6
  go_wp2_with fail
  refine (awake2_any _).mono ?_
  rintro e W7 ⟨rfl, hb7⟩
  have hb7' := hid (below_up hb7 (below_up hb6.out (below_up hb5.out hb3'.out)))
  clear hb7
  go_wp2
  go_ret
  exact ⟨rfl, hb7'.out⟩

end Go.Proofs.Ytncfgdhofefkbaa
