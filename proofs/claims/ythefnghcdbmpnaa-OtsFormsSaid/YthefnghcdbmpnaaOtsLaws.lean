/- Layer 4's statements: what every program answers that is one; OtsKeys, OtsCandidates.
   Layer 4's statements: OtsCandidates, OtsBack.
   Layer 4's statements: OtsShared.
   Layer 4's statements: OtsForms. -/
import Derived.Test.YthefnghcdbmpnaaOtsTt
namespace Go.Proofs.Ythefnghcdbmpnaa
open Go.RowKit
open Go.Lib (strCells strCells_length strCells_oneCell)
attribute [local irreducible] Sha.compress Sha.blocks Sha.sha Sha.pad

theorem good3 (q : Int) (id seed : ByteArray) (hm : Ots.may id.size q = true) (hs : seed.size = 32) : otsGood 3 q id seed = some ⟨4, 67, 4⟩ := by
  unfold otsGood
  have e : Ots.par 3 = some ⟨4, 67, 4⟩ := rfl
  rw [e]
  simp only
  rw [if_pos ⟨hm, hs⟩]

theorem none9 (q : Int) (id seed : ByteArray) : pubAns 9 q id seed = (.agg z32, 400) := by
  unfold pubAns otsGood
  have e : Ots.par 9 = none := rfl
  rw [e]

theorem cand_empty (q : Int) (id msg : ByteArray) : candAns q id msg ⟨#[]⟩ = (.agg z32, 400) := by
  unfold candAns candGood
  rw [if_pos (by decide)]

set_option maxRecDepth 100000 in
set_option maxHeartbeats 2000000 in
theorem awake4_any (w : World) : Calls Try.prog 18 #[] w fun e w' => e = .returned (.bool true) ∧ Below w.heap.size w w' := by
  have hf1 := hid (fun W => filled_any ⟨#[105, 100]⟩ 16 (by decide) (by decide) W)
  have hf2 := hid (fun W => filled_any ⟨#[115, 101, 101, 100]⟩ 32 (by decide) (by decide) W)
  have z1 := fillT_size ⟨#[105, 100]⟩ 16
  have z2 := fillT_size ⟨#[115, 101, 101, 100]⟩ 32
  obtain ⟨I, hI⟩ : ∃ I, fillT ⟨#[105, 100]⟩ 16 = I := ⟨_, rfl⟩
  obtain ⟨S, hS⟩ : ∃ S, fillT ⟨#[115, 101, 101, 100]⟩ 32 = S := ⟨_, rfl⟩
  rw [hI] at hf1 z1
  rw [hS] at hf2 z2
  have hg := good3 5 I S (by unfold Ots.may; rw [z1]; decide) z2
  obtain ⟨hc, hs2, hp2, hsz⟩ := cand_of_sign 3 5 I S ⟨#[109]⟩ _ hg (by decide)
  obtain ⟨cs, hC, hcs⟩ := pub_cells 3 5 I S
  have hC' := hid hC
  have hP := hid (fun W => Public_any 3 5 I S W)
  have hG := hid (fun W => Sign_any 3 5 I S ⟨#[109]⟩ (by decide) W)
  have h9 := hid (fun W => Public_any 9 5 I S W)
  have h0 := hid (fun W => Candidate_any 5 I ⟨#[109]⟩ ⟨#[]⟩ (by decide) (by decide) W)
  rw [none9] at h9
  rw [cand_empty] at h0
  rw [hcs, hp2] at hP
  have hK := hid (fun W => Candidate_any 5 I ⟨#[109]⟩ (signAns 3 5 I S ⟨#[109]⟩).1 (by decide) (by rw [hsz]; decide) W)
  rw [hc, hcs, hp2] at hK
  rw [hs2] at hG
  obtain ⟨G, hGe⟩ : ∃ G, (signAns 3 5 I S ⟨#[109]⟩).1 = G := ⟨_, rfl⟩
  rw [hGe] at hG hK hsz
  have hsz' : (G.size : Int) = 2180 := by rw [hsz]; rfl
  clear hI hS hg hc hs2 hp2 hcs hC hGe hsz z1 z2
  have hz32 := zero_cells.size
  have hz1c := zero_cells.one
  have heq := hC'.out.eql
  have hgd := hC'.out.guard
  go_enter Try.func18, Try.ntmps18
  go_wp2_with fail
  refine (hf1.out _).mono ?_
  rintro e W1 ⟨rfl, hb1⟩
  have hb1' := hid hb1
  clear hb1
  go_wp2_with fail
  refine (hf2.out _).mono ?_
  rintro e W2 ⟨rfl, hb2⟩
  have hb2' := hid (below_up hb2 hb1'.out)
  clear hb2
  go_wp2_with fail
  refine (hP.out _).mono ?_
  rintro e W3 ⟨rfl, hb3⟩
  have hb3' := hid (below_up hb3 hb2'.out)
  clear hb3
  rename_i hK1
  refine hK1 _ _ ?_
  clear hK1
  go_wp2_with (first
    | ((with_reducible refine at_slot (some 3) ?_); refine wpList_run rfl (.pointer (some ⟨W3.heap.size, 0, none⟩)) (W3.alloc (.cells z32 23)) (by kernel_rfl) ?_)
    | ((with_reducible refine at_slot none ?_); refine wpList_store_mid rfl 23 (.tmp 3) (.tmp 19) rfl W3.heap.size 0 cs.toArray rfl rfl (by exact hC'.out.there W3) (by exact hC'.out.size) (by exact hC'.out.one) ?_; generalize hW4 : World.setCells _ _ _ _ = W4))
  obtain ⟨hH4, hb4⟩ := hC'.out.new hW4
  have hH4' := hid hH4
  have hb4' := hid (below_up hb4 hb3'.out)
  clear hW4 hH4 hb4
  refine (hG.out _).mono ?_
  rintro e W5 ⟨rfl, hb5⟩
  have hH5 := hid (hH4'.out.below hb5 hH4'.out.lt)
  have hb5' := hid (below_up hb5 hb4'.out)
  clear hb5
  go_wp2_with fail
  refine (hK.out _).mono ?_
  rintro e W6 ⟨rfl, hb6⟩
  have hH6 := hid (hH5.out.below hb6 hH5.out.lt)
  have hb6' := hid (below_up hb6 hb5'.out)
  clear hb6
  rename_i hK1
  refine hK1 _ _ ?_
  clear hK1
  go_wp2_with (first
    | ((with_reducible refine at_slot (some 7) ?_); refine wpList_run rfl (.pointer (some ⟨W6.heap.size, 0, none⟩)) (W6.alloc (.cells z32 23)) (by kernel_rfl) ?_)
    | ((with_reducible refine at_slot none ?_); refine wpList_store_mid rfl 23 (.tmp 7) (.tmp 31) rfl W6.heap.size 0 cs.toArray rfl rfl (by exact hC'.out.there W6) (by exact hC'.out.size) (by exact hC'.out.one) ?_; generalize hW7 : World.setCells _ _ _ _ = W7))
  obtain ⟨hH7, hb7⟩ := hC'.out.new hW7
  have hJ7 := hid hH7
  have hH7' := hid (hH6.out.below hb7 hH6.out.lt)
  have hb7' := hid (below_up hb7 hb6'.out)
  clear hW7 hH7 hb7
  refine (h9.out _).mono ?_
  rintro e W8 ⟨rfl, hb8⟩
  have hH8 := hid (hH7'.out.below hb8 hH7'.out.lt)
  have hJ8 := hid (hJ7.out.below hb8 hJ7.out.lt)
  have hb8' := hid (below_up hb8 hb7'.out)
  clear hb8
  rename_i hK1
  refine hK1 _ _ ?_
  clear hK1
  go_wp2_with (first
    | ((with_reducible refine at_slot (some 9) ?_); refine wpList_run rfl (.pointer (some ⟨W8.heap.size, 0, none⟩)) (W8.alloc (.cells z32 23)) (by kernel_rfl) ?_)
    | ((with_reducible refine at_slot none ?_); refine wpList_store_mid rfl 23 (.tmp 9) (.tmp 37) rfl W8.heap.size 0 z32 rfl rfl (by exact zero_cells.there W8) (by exact hz32) (by exact hz1c) ?_; generalize hW9 : World.setCells _ _ _ _ = W9))
  obtain ⟨-, hb9⟩ := zero_cells.new hW9
  have hH9 := hid (hH8.out.below hb9 hH8.out.lt)
  have hJ9 := hid (hJ8.out.below hb9 hJ8.out.lt)
  have hb9' := hid (below_up hb9 hb8'.out)
  clear hW9 hb9
  refine (h0.out _).mono ?_
  rintro e W10 ⟨rfl, hb10⟩
  have hH10 := hid (hH9.out.below hb10 hH9.out.lt)
  have hJ10 := hid (hJ9.out.below hb10 hJ9.out.lt)
  have hb10' := hid (below_up hb10 hb9'.out)
  clear hb10
  rename_i hK1
  refine hK1 _ _ ?_
  clear hK1
  go_wp2_with (first
    | ((with_reducible refine at_slot (some 11) ?_); refine wpList_run rfl (.pointer (some ⟨W10.heap.size, 0, none⟩)) (W10.alloc (.cells z32 23)) (by kernel_rfl) ?_)
    | ((with_reducible refine at_slot none ?_); refine wpList_store_mid rfl 23 (.tmp 11) (.tmp 42) rfl W10.heap.size 0 z32 rfl rfl (by exact zero_cells.there W10) (by exact hz32) (by exact hz1c) ?_; generalize hW11 : World.setCells _ _ _ _ = W11
       obtain ⟨-, hb11⟩ := zero_cells.new hW11
       have hH11 := hid (hH10.out.below hb11 hH10.out.lt)
       have hJ11 := hid (hJ10.out.below hb11 hJ10.out.lt)
       have hb11' := hid (below_up hb11 hb10'.out)
       clear hW11 hb11)
    | ((with_reducible refine at_slot (some 58) ?_); refine wpList_load_on (by kernel_rfl) 23 (.tmp 7) rfl W6.heap.size 0 rfl cs _ (by exact h_all hJ11.out) Try.underlying23 rfl (by exact hC'.out.size') ?_)
    | ((with_reducible refine at_slot (some 59) ?_); refine wpList_load_on (by kernel_rfl) 23 (.tmp 3) rfl W3.heap.size 0 rfl cs _ (by exact h_all hH11.out) Try.underlying23 rfl (by exact hC'.out.size') ?_)
    | (go_at_call 17; refine (errNum_any _ _).mono ?_; rintro e w' ⟨rfl, rfl⟩)
    | fail)
  go_ret
  exact ⟨rfl, hb11'.out⟩

set_option maxRecDepth 100000 in
set_option maxHeartbeats 2000000 in
theorem OtsKeys_law {w : World} (kind : Int) (_ : (Lit.int .i64 kind).wf = true) (id : ByteArray) (hi : id.size ≤ 140737488351232) (q : Int) (_ : (Lit.int .i64 q).wf = true) (seed : ByteArray) (hs : seed.size ≤ 140737488351232) (msg : ByteArray) (hm : msg.size ≤ 140737488351232) :
    Calls Try.prog 3 #[.int .i64 kind, .string id, .int .i64 q, .string seed, .string msg] w fun e w' => e = .returned (.bool true) ∧ Below w.heap.size w w' := by
  obtain ⟨cs, hC, hcs⟩ := pub_cells kind q id seed
  have hC' := hid hC
  have hP := hid (fun W => Public_any kind q id seed W)
  have hR := hid (fun W => rPublic_any kind q id seed W)
  have hG := hid (fun W => Sign_any kind q id seed msg hm W)
  have hQ := hid (fun W => rSign_any kind q id seed msg hm W)
  rw [hcs] at hP hR
  obtain ⟨G, hGe⟩ : ∃ G, (signAns kind q id seed msg).1 = G := ⟨_, rfl⟩
  obtain ⟨r, hr⟩ : ∃ r, (signAns kind q id seed msg).2 = r := ⟨_, rfl⟩
  obtain ⟨r2, hr2⟩ : ∃ r, (pubAns kind q id seed).2 = r := ⟨_, rfl⟩
  rw [hGe, hr] at hG hQ
  rw [hr2] at hP hR
  clear hcs hC hGe hr hr2
  have heq := hC'.out.eql
  have hgd := hC'.out.guard
  go_enter Try.func3, Try.ntmps3
  go_wp2_with fail
  refine (hP.out _).mono ?_
  rintro e W3 ⟨rfl, hb3⟩
  have hb3' := hid hb3
  clear hb3
  rename_i hK1
  refine hK1 _ _ ?_
  clear hK1
  go_wp2_with (first
    | ((with_reducible refine at_slot (some 11) ?_); refine wpList_run rfl (.pointer (some ⟨W3.heap.size, 0, none⟩)) (W3.alloc (.cells z32 23)) (by kernel_rfl) ?_)
    | ((with_reducible refine at_slot none ?_); refine wpList_store_mid rfl 23 (.tmp 11) (.tmp 25) rfl W3.heap.size 0 cs.toArray rfl rfl (by exact hC'.out.there W3) (by exact hC'.out.size) (by exact hC'.out.one) ?_; generalize hW4 : World.setCells _ _ _ _ = W4))
  obtain ⟨hH4, hb4⟩ := hC'.out.new hW4
  have hH4' := hid hH4
  have hb4' := hid (below_up hb4 hb3'.out)
  clear hW4 hH4 hb4
  refine (hR.out _).mono ?_
  rintro e W5 ⟨rfl, hb5⟩
  have hH5 := hid (hH4'.out.below hb5 hH4'.out.lt)
  have hb5' := hid (below_up hb5 hb4'.out)
  clear hb5
  rename_i hK1
  refine hK1 _ _ ?_
  clear hK1
  go_wp2_with (first
    | ((with_reducible refine at_slot (some 13) ?_); refine wpList_run rfl (.pointer (some ⟨W5.heap.size, 0, none⟩)) (W5.alloc (.cells z32 23)) (by kernel_rfl) ?_)
    | ((with_reducible refine at_slot none ?_); refine wpList_store_mid rfl 23 (.tmp 13) (.tmp 33) rfl W5.heap.size 0 cs.toArray rfl rfl (by exact hC'.out.there W5) (by exact hC'.out.size) (by exact hC'.out.one) ?_; generalize hW6 : World.setCells _ _ _ _ = W6))
  obtain ⟨hH6, hb6⟩ := hC'.out.new hW6
  have hJ6 := hid hH6
  have hH6' := hid (hH5.out.below hb6 hH5.out.lt)
  have hb6' := hid (below_up hb6 hb5'.out)
  clear hW6 hH6 hb6
  refine (hG.out _).mono ?_
  rintro e W7 ⟨rfl, hb7⟩
  have hH7 := hid (hH6'.out.below hb7 hH6'.out.lt)
  have hJ7 := hid (hJ6.out.below hb7 hJ6.out.lt)
  have hb7' := hid (below_up hb7 hb6'.out)
  clear hb7
  go_wp2_with fail
  refine (hQ.out _).mono ?_
  rintro e W8 ⟨rfl, hb8⟩
  have hH8 := hid (hH7.out.below hb8 hH7.out.lt)
  have hJ8 := hid (hJ7.out.below hb8 hJ7.out.lt)
  have hb8' := hid (below_up hb8 hb7'.out)
  clear hb8
  go_wp2_with (first
    | ((with_reducible refine at_slot (some 53) ?_); refine wpList_load_mid rfl 23 (.tmp 11) rfl W3.heap.size 0 rfl cs _ (by exact h_all hH8.out) Try.underlying23 rfl (by exact hC'.out.size') ?_)
    | ((with_reducible refine at_slot (some 54) ?_); refine wpList_load_mid rfl 23 (.tmp 13) rfl W5.heap.size 0 rfl cs _ (by exact h_all hJ8.out) Try.underlying23 rfl (by exact hC'.out.size') ?_)
    | (go_at_call 17; refine (errNum_any _ _).mono ?_; rintro e w' ⟨rfl, rfl⟩)
    | (go_at_call 18; refine (awake4_any _).mono ?_; rintro e W9 ⟨rfl, hb9⟩; have hb9' := hid (below_up hb9 hb8'.out); clear hb9)
    | fail)
  go_ret
  exact ⟨rfl, hb9'.out⟩

end Go.Proofs.Ythefnghcdbmpnaa
namespace Go.Proofs.Ythefnghcdbmpnaa
open Go.RowKit
open Go.Lib (strCells strCells_length strCells_oneCell)
attribute [local irreducible] Sha.compress Sha.blocks Sha.sha Sha.pad

set_option maxRecDepth 100000 in
set_option maxHeartbeats 2000000 in
theorem OtsCandidates_law {w : World} (id : ByteArray) (hi : id.size ≤ 140737488351232) (q : Int) (_ : (Lit.int .i64 q).wf = true) (msg : ByteArray) (hm : msg.size ≤ 140737488351232) (sign : ByteArray) (hs : sign.size ≤ 140737488351232) :
    Calls Try.prog 4 #[.string id, .int .i64 q, .string msg, .string sign] w fun e w' => e = .returned (.bool true) ∧ Below w.heap.size w w' := by
  obtain ⟨cs, hC, hcs⟩ := cand_cells q id msg sign
  have hC' := hid hC
  have hP := hid (fun W => Candidate_any q id msg sign hm hs W)
  have hR := hid (fun W => rCandidate_any q id msg sign hm hs W)
  rw [hcs] at hP hR
  obtain ⟨r2, hr2⟩ : ∃ r, (candAns q id msg sign).2 = r := ⟨_, rfl⟩
  rw [hr2] at hP hR
  clear hcs hC hr2
  have heq := hC'.out.eql
  have hgd := hC'.out.guard
  go_enter Try.func4, Try.ntmps4
  go_wp2_with fail
  refine (hP.out _).mono ?_
  rintro e W3 ⟨rfl, hb3⟩
  have hb3' := hid hb3
  clear hb3
  rename_i hK1
  refine hK1 _ _ ?_
  clear hK1
  go_wp2_with (first
    | ((with_reducible refine at_slot (some 9) ?_); refine wpList_run rfl (.pointer (some ⟨W3.heap.size, 0, none⟩)) (W3.alloc (.cells z32 23)) (by kernel_rfl) ?_)
    | ((with_reducible refine at_slot none ?_); refine wpList_store_mid rfl 23 (.tmp 9) (.tmp 19) rfl W3.heap.size 0 cs.toArray rfl rfl (by exact hC'.out.there W3) (by exact hC'.out.size) (by exact hC'.out.one) ?_; generalize hW4 : World.setCells _ _ _ _ = W4))
  obtain ⟨hH4, hb4⟩ := hC'.out.new hW4
  have hH4' := hid hH4
  have hb4' := hid (below_up hb4 hb3'.out)
  clear hW4 hH4 hb4
  refine (hR.out _).mono ?_
  rintro e W5 ⟨rfl, hb5⟩
  have hH5 := hid (hH4'.out.below hb5 hH4'.out.lt)
  have hb5' := hid (below_up hb5 hb4'.out)
  clear hb5
  rename_i hK1
  refine hK1 _ _ ?_
  clear hK1
  go_wp2_with (first
    | ((with_reducible refine at_slot (some 11) ?_); refine wpList_run rfl (.pointer (some ⟨W5.heap.size, 0, none⟩)) (W5.alloc (.cells z32 23)) (by kernel_rfl) ?_)
    | ((with_reducible refine at_slot none ?_); refine wpList_store_mid rfl 23 (.tmp 11) (.tmp 27) rfl W5.heap.size 0 cs.toArray rfl rfl (by exact hC'.out.there W5) (by exact hC'.out.size) (by exact hC'.out.one) ?_; generalize hW6 : World.setCells _ _ _ _ = W6
       obtain ⟨hH6, hb6⟩ := hC'.out.new hW6
       have hJ6 := hid hH6
       have hH6' := hid (hH5.out.below hb6 hH5.out.lt)
       have hb6' := hid (below_up hb6 hb5'.out)
       clear hW6 hH6 hb6)
    | ((with_reducible refine at_slot (some 29) ?_); refine wpList_load_mid rfl 23 (.tmp 9) rfl W3.heap.size 0 rfl cs _ (by exact h_all hH6'.out) Try.underlying23 rfl (by exact hC'.out.size') ?_)
    | ((with_reducible refine at_slot (some 30) ?_); refine wpList_load_mid rfl 23 (.tmp 11) rfl W5.heap.size 0 rfl cs _ (by exact h_all hJ6.out) Try.underlying23 rfl (by exact hC'.out.size') ?_)
    | (go_at_call 17; refine (errNum_any _ _).mono ?_; rintro e w' ⟨rfl, rfl⟩)
    | (go_at_call 18; refine (awake4_any _).mono ?_; rintro e W9 ⟨rfl, hb9⟩; have hb9' := hid (below_up hb9 hb6'.out); clear hb9)
    | fail)
  go_ret
  exact ⟨rfl, hb9'.out⟩

theorem mask32 (q : Int) : ∃ n : Nat, n ≤ 4294967295 ∧ bits .and .i64 q 4294967295 = (n : Int) := by
  have e : bits .and .i64 q 4294967295 = IntKind.i64.wrap ((BitVec.ofInt 64 q &&& BitVec.ofInt 64 4294967295).toNat : Int) := rfl
  have h2 : (BitVec.ofInt 64 4294967295).toNat = 4294967295 := by decide
  have hle : (BitVec.ofInt 64 q &&& BitVec.ofInt 64 4294967295).toNat ≤ 4294967295 := by
    rw [BitVec.toNat_and, h2]
    exact Nat.and_le_right
  refine ⟨_, hle, ?_⟩
  rw [e, IntWalk.i64_in _ (by omega)]

theorem good4 (q : Int) (id seed : ByteArray) (hm : Ots.may id.size q = true) (hs : seed.size = 32) : otsGood 4 q id seed = some ⟨8, 34, 0⟩ := by
  unfold otsGood
  have e : Ots.par 4 = some ⟨8, 34, 0⟩ := rfl
  rw [e]
  simp only
  rw [if_pos ⟨hm, hs⟩]

theorem may_ok (id : ByteArray) (n : Nat) (hi : id.size = 16) (hn : n ≤ 4294967295) : Ots.may id.size (n : Int) = true := by
  simp only [Ots.may, decide_eq_true_eq]
  omega

set_option maxRecDepth 100000 in
set_option maxHeartbeats 4000000 in
theorem OtsBack_law {w : World} (wide : Bool) (id : ByteArray) (hi : id.size ≤ 140737488351232) (q : Int) (_ : (Lit.int .i64 q).wf = true) (seed : ByteArray) (hs : seed.size ≤ 140737488351232) (msg : ByteArray) (hm : msg.size ≤ 140737488351232) :
    Calls Try.prog 5 #[.bool wide, .string id, .int .i64 q, .string seed, .string msg] w fun e w' => e = .returned (.bool true) ∧ Below w.heap.size w w' := by
  have hf1 := hid (fun W => filled_any id 16 (by decide) hi W)
  have hf2 := hid (fun W => filled_any seed 32 (by decide) hs W)
  have z1 := fillT_size id 16
  have z2 := fillT_size seed 32
  obtain ⟨I, hI⟩ : ∃ I, fillT id 16 = I := ⟨_, rfl⟩
  obtain ⟨S, hS⟩ : ∃ S, fillT seed 32 = S := ⟨_, rfl⟩
  rw [hI] at hf1 z1
  rw [hS] at hf2 z2
  obtain ⟨n, hn, hand⟩ := mask32 q
  obtain ⟨kind, o, hk, hg, hp100⟩ : ∃ (kind : Int) (o : Ots.Par), ((wide = true ∧ kind = 4) ∨ (wide = false ∧ kind = 3)) ∧ otsGood kind (n : Int) I S = some o ∧ o.p ≤ 100 := by
    cases wide
    · exact ⟨3, _, .inr ⟨rfl, rfl⟩, good3 _ I S (may_ok I n z1 hn) z2, by decide⟩
    · exact ⟨4, _, .inl ⟨rfl, rfl⟩, good4 _ I S (may_ok I n z1 hn) z2, by decide⟩
  obtain ⟨cs, hC, hcs⟩ := pub_cells kind n I S
  have hC' := hid hC
  have hP := hid (fun W => Public_any kind n I S W)
  have hG := hid (fun W => Sign_any kind n I S msg hm W)
  have heq := hC'.out.eql
  have hgd := hC'.out.guard
  by_cases hb : msg.size ≤ 65536
  · obtain ⟨hc, hs2, hp2, hsz⟩ := cand_of_sign kind n I S msg o hg hb
    have hK := hid (fun W => Candidate_any n I msg (signAns kind n I S msg).1 hm (by rw [hsz]; omega) W)
    rw [hc, hcs, hp2] at hK
    rw [hs2] at hG
    rw [hcs, hp2] at hP
    obtain ⟨G, hGe⟩ : ∃ G, (signAns kind n I S msg).1 = G := ⟨_, rfl⟩
    rw [hGe] at hG hK
    clear hI hS hg hc hs2 hp2 hcs hC hGe hsz z1 z2
    rcases hk with ⟨rfl, rfl⟩ | ⟨rfl, rfl⟩
    all_goals
      go_enter Try.func5, Try.ntmps5
      go_wp2_with fail
      refine (awake4_any _).mono ?_
      rintro e W0 ⟨rfl, hb0⟩
      have hb0' := hid hb0
      clear hb0
      go_wp2_with fail
      refine (hf1.out _).mono ?_
      rintro e W1 ⟨rfl, hb1⟩
      have hb1' := hid (below_up hb1 hb0'.out)
      clear hb1
      go_wp2_with fail
      refine (hf2.out _).mono ?_
      rintro e W2 ⟨rfl, hb2⟩
      have hb2' := hid (below_up hb2 hb1'.out)
      clear hb2
      go_wp2_with fail
      refine (hP.out _).mono ?_
      rintro e W3 ⟨rfl, hb3⟩
      have hb3' := hid (below_up hb3 hb2'.out)
      clear hb3
      rename_i hK1
      refine hK1 _ _ ?_
      clear hK1
      go_wp2_with (first
        | ((with_reducible refine at_slot (some 15) ?_); refine wpList_run rfl (.pointer (some ⟨W3.heap.size, 0, none⟩)) (W3.alloc (.cells z32 23)) (by kernel_rfl) ?_)
        | ((with_reducible refine at_slot none ?_); refine wpList_store_mid rfl 23 (.tmp 15) (.tmp 38) rfl W3.heap.size 0 cs.toArray rfl rfl (by exact hC'.out.there W3) (by exact hC'.out.size) (by exact hC'.out.one) ?_; generalize hW4 : World.setCells _ _ _ _ = W4))
      obtain ⟨hH4, hb4⟩ := hC'.out.new hW4
      have hH4' := hid hH4
      have hb4' := hid (below_up hb4 hb3'.out)
      clear hW4 hH4 hb4
      refine (hG.out _).mono ?_
      rintro e W5 ⟨rfl, hb5⟩
      have hH5 := hid (hH4'.out.below hb5 hH4'.out.lt)
      have hb5' := hid (below_up hb5 hb4'.out)
      clear hb5
      go_wp2_with (go_at_call 17; refine (errNum_any _ _).mono ?_; rintro e w' ⟨rfl, rfl⟩)
      refine (hK.out _).mono ?_
      rintro e W6 ⟨rfl, hb6⟩
      have hH6 := hid (hH5.out.below hb6 hH5.out.lt)
      have hb6' := hid (below_up hb6 hb5'.out)
      clear hb6
      rename_i hK1
      refine hK1 _ _ ?_
      clear hK1
      go_wp2_with (first
        | ((with_reducible refine at_slot (some 19) ?_); refine wpList_run rfl (.pointer (some ⟨W6.heap.size, 0, none⟩)) (W6.alloc (.cells z32 23)) (by kernel_rfl) ?_)
        | ((with_reducible refine at_slot none ?_); refine wpList_store_mid rfl 23 (.tmp 19) (.tmp 66) rfl W6.heap.size 0 cs.toArray rfl rfl (by exact hC'.out.there W6) (by exact hC'.out.size) (by exact hC'.out.one) ?_; generalize hW7 : World.setCells _ _ _ _ = W7))
      obtain ⟨hH7, hb7⟩ := hC'.out.new hW7
      have hJ7 := hid hH7
      have hH7' := hid (hH6.out.below hb7 hH6.out.lt)
      have hb7' := hid (below_up hb7 hb6'.out)
      clear hW7 hH7 hb7
      refine (hG.out _).mono ?_
      rintro e W8 ⟨rfl, hb8⟩
      have hH8 := hid (hH7'.out.below hb8 hH7'.out.lt)
      have hJ8 := hid (hJ7.out.below hb8 hJ7.out.lt)
      have hb8' := hid (below_up hb8 hb7'.out)
      clear hb8
      go_wp2_with (first
        | ((with_reducible refine at_slot (some 81) ?_); refine wpList_load_on (by kernel_rfl) 23 (.tmp 19) rfl W6.heap.size 0 rfl cs _ (by exact h_all hJ8.out) Try.underlying23 rfl (by exact hC'.out.size') ?_)
        | ((with_reducible refine at_slot (some 82) ?_); refine wpList_load_on (by kernel_rfl) 23 (.tmp 15) rfl W3.heap.size 0 rfl cs _ (by exact h_all hH8.out) Try.underlying23 rfl (by exact hC'.out.size') ?_)
        | (go_at_call 17; refine (errNum_any _ _).mono ?_; rintro e w' ⟨rfl, rfl⟩)
        | fail)
      go_ret
      exact ⟨rfl, hb8'.out⟩
  · have hs2 : (signAns kind n I S msg) = (⟨#[]⟩, 400) := by unfold signAns; rw [hg]; simp only [if_neg hb]
    rw [hs2] at hG
    rw [hcs] at hP
    obtain ⟨r, hr⟩ : ∃ r, (pubAns kind n I S).2 = r := ⟨_, rfl⟩
    rw [hr] at hP
    have hbig : decide ((65536 : Int) < (msg.size : Int)) = true := by simp; omega
    clear hI hS hg hs2 hcs hC hr z1 z2
    rcases hk with ⟨rfl, rfl⟩ | ⟨rfl, rfl⟩
    all_goals
      go_enter Try.func5, Try.ntmps5
      go_wp2_with fail
      refine (awake4_any _).mono ?_
      rintro e W0 ⟨rfl, hb0⟩
      have hb0' := hid hb0
      clear hb0
      go_wp2_with fail
      refine (hf1.out _).mono ?_
      rintro e W1 ⟨rfl, hb1⟩
      have hb1' := hid (below_up hb1 hb0'.out)
      clear hb1
      go_wp2_with fail
      refine (hf2.out _).mono ?_
      rintro e W2 ⟨rfl, hb2⟩
      have hb2' := hid (below_up hb2 hb1'.out)
      clear hb2
      go_wp2_with fail
      refine (hP.out _).mono ?_
      rintro e W3 ⟨rfl, hb3⟩
      have hb3' := hid (below_up hb3 hb2'.out)
      clear hb3
      rename_i hK1
      refine hK1 _ _ ?_
      clear hK1
      go_wp2_with (first
        | ((with_reducible refine at_slot (some 15) ?_); refine wpList_run rfl (.pointer (some ⟨W3.heap.size, 0, none⟩)) (W3.alloc (.cells z32 23)) (by kernel_rfl) ?_)
        | ((with_reducible refine at_slot none ?_); refine wpList_store_mid rfl 23 (.tmp 15) (.tmp 38) rfl W3.heap.size 0 cs.toArray rfl rfl (by exact hC'.out.there W3) (by exact hC'.out.size) (by exact hC'.out.one) ?_; generalize hW4 : World.setCells _ _ _ _ = W4))
      obtain ⟨hH4, hb4⟩ := hC'.out.new hW4
      have hb4' := hid (below_up hb4 hb3'.out)
      clear hW4 hH4 hb4
      refine (hG.out _).mono ?_
      rintro e W5 ⟨rfl, hb5⟩
      have hb5' := hid (below_up hb5 hb4'.out)
      clear hb5
      go_wp2_with (go_at_call 17; refine (errNum_any _ _).mono ?_; rintro e w' ⟨rfl, rfl⟩)
      go_ret
      exact ⟨rfl, hb5'.out⟩

end Go.Proofs.Ythefnghcdbmpnaa
namespace Go.Proofs.Ythefnghcdbmpnaa
open Go.RowKit
open Go.Lib (strCells strCells_length strCells_oneCell)
attribute [local irreducible] Sha.compress Sha.blocks Sha.sha Sha.pad

/-- A signature of kind 3, its parts that do not hang on the message. -/
theorem sign3 (q : Int) (id seed msg : ByteArray) (hg : otsGood 3 q id seed = some ⟨4, 67, 4⟩) (hm : msg.size ≤ 65536) :
    (signAns 3 q id seed msg).2 = 0 ∧ (signAns 3 q id seed msg).1.size = 2180 ∧ (signAns 3 q id seed msg).1.extract 0 4 = ⟨#[0, 0, 0, 3]⟩ ∧ (signAns 3 q id seed msg).1.extract 0 36 = txt (beL 4 3 ++ Ots.salt (Ots.head id.data.toList q.toNat) seed.data.toList) := by
  have e1 : signAns 3 q id seed msg = (txt (Ots.sign ⟨4, 67, 4⟩ 3 (Ots.head id.data.toList q.toNat) seed.data.toList msg.data.toList), 0) := by unfold signAns; rw [hg]; simp only [if_pos hm]; rfl
  have hl := Ots.sign_len sha_len32 ⟨4, 67, 4⟩ 3 (Ots.head id.data.toList q.toNat) seed.data.toList msg.data.toList
  have hs := Ots.salt_len (Ots.head id.data.toList q.toNat) seed.data.toList sha_len32
  rw [e1]
  refine ⟨rfl, by rw [txt_size, hl]; rfl, ?_, ?_⟩
  · apply bytes_ext
    rw [cut_list, txt_list, Ots.sign_kind]
    decide
  · apply bytes_ext
    rw [cut_list, txt_list, txt_list, Ots.sign_eq, ← List.append_assoc]
    have h36 : (beL 4 3 ++ Ots.salt (Ots.head id.data.toList q.toNat) seed.data.toList).length = 36 := by rw [List.length_append, beL_length, hs]
    exact List.take_left' h36

theorem sign_long (kind q : Int) (id seed msg : ByteArray) (hm : ¬ msg.size ≤ 65536) : signAns kind q id seed msg = (⟨#[]⟩, 400) := by
  unfold signAns
  cases otsGood kind q id seed with
  | none => rfl
  | some o => simp only [if_neg hm]

set_option maxRecDepth 100000 in
set_option maxHeartbeats 4000000 in
theorem OtsShared_law {w : World} (seed : ByteArray) (hs : seed.size ≤ 140737488351232) (a : ByteArray) (ha : a.size ≤ 140737488351232) (b : ByteArray) (hb : b.size ≤ 140737488351232) :
    Calls Try.prog 7 #[.string seed, .string a, .string b] w fun e w' => e = .returned (.bool true) ∧ Below w.heap.size w w' := by
  have hf1 := hid (fun W => filled_any ⟨#[120]⟩ 16 (by decide) (by decide) W)
  have hf2 := hid (fun W => filled_any seed 32 (by decide) hs W)
  have z1 := fillT_size ⟨#[120]⟩ 16
  have z2 := fillT_size seed 32
  obtain ⟨I, hI⟩ : ∃ I, fillT ⟨#[120]⟩ 16 = I := ⟨_, rfl⟩
  obtain ⟨S, hS⟩ : ∃ S, fillT seed 32 = S := ⟨_, rfl⟩
  rw [hI] at hf1 z1
  rw [hS] at hf2 z2
  have hg := good3 1 I S (may_ok I 1 z1 (by decide)) z2
  have hA := hid (fun W => Sign_any 3 1 I S a ha W)
  have hB := hid (fun W => Sign_any 3 1 I S b hb W)
  by_cases h1 : a.size ≤ 65536
  · by_cases h2 : b.size ≤ 65536
    · obtain ⟨a1, a2, a3, a4⟩ := sign3 1 I S a hg h1
      obtain ⟨b1, b2, b3, b4⟩ := sign3 1 I S b hg h2
      have hsame : a = b → (signAns 3 1 I S a).1 = (signAns 3 1 I S b).1 := fun h => by rw [h]
      rw [a1] at hA
      rw [b1] at hB
      rw [← b4] at a4
      obtain ⟨P, hP⟩ : ∃ P, (signAns 3 1 I S a).1 = P := ⟨_, rfl⟩
      obtain ⟨Q, hQ⟩ : ∃ Q, (signAns 3 1 I S b).1 = Q := ⟨_, rfl⟩
      rw [hP] at hA a2 a3 a4 hsame
      rw [hQ] at hB b2 a4 hsame
      clear hI hS hg a1 b1 b3 b4 hP hQ z1 z2
      have hps : (P.size : Int) = 2180 := by omega
      have hqs : (Q.size : Int) = 2180 := by omega
      have e4 := hid a3
      obtain ⟨X, hX⟩ : ∃ X, Q.extract 0 36 = X := ⟨_, rfl⟩
      rw [hX] at a4
      have eP := hid a4
      have eQ := hid hX
      clear a3 a4 hX a2 b2
      go_enter Try.func7, Try.ntmps7
      go_wp2_with fail
      refine (awake4_any _).mono ?_
      rintro e W0 ⟨rfl, hb0⟩
      have hb0' := hid hb0
      clear hb0
      go_wp2_with fail
      refine (hf1.out _).mono ?_
      rintro e W1 ⟨rfl, hb1⟩
      have hb1' := hid (below_up hb1 hb0'.out)
      clear hb1
      go_wp2_with fail
      refine (hf2.out _).mono ?_
      rintro e W2 ⟨rfl, hb2⟩
      have hb2' := hid (below_up hb2 hb1'.out)
      clear hb2
      go_wp2_with fail
      refine (hA.out _).mono ?_
      rintro e W3 ⟨rfl, hb3⟩
      have hb3' := hid (below_up hb3 hb2'.out)
      clear hb3
      go_wp2_with fail
      refine (hB.out _).mono ?_
      rintro e W4 ⟨rfl, hb4⟩
      have hb4' := hid (below_up hb4 hb3'.out)
      clear hb4
      go_wp2_with (go_at_call 17; refine (errNum_any _ _).mono ?_; rintro e w' ⟨rfl, rfl⟩)
      have hb5' := hid hb4'.out.drew
      by_cases hab : a = b
      · have hpq := hid (hsame hab)
        clear hsame
        refine wp_region_held_drew (S := fun _ => True) (by kernel_rfl) (by exact True.intro) (fun hHeld => ?_)
        refine wpAnyH_take (i := 0) (v := .string P) rfl (by kernel_rfl) (by kernel_rfl) (by kernel_rfl) (fun _ _ _ h => h) (yieldsIf_move _ rfl rfl rfl) hHeld ?_
        simp only [List.getElem_toArray, List.getElem_cons_succ, List.getElem_cons_zero, Act.put, List.setIfInBounds_toArray, List.set_cons_zero, List.set_cons_succ]
        refine wpAnyH_take (i := 1) (v := .int .i64 2180) rfl (by kernel_rfl) (by kernel_rfl) (by kernel_rfl) (fun _ _ _ h => h) (.inl ⟨by kernel_rfl, fun w _ => by go_simp⟩) hHeld ?_
        simp only [List.getElem_toArray, List.getElem_cons_succ, List.getElem_cons_zero, Act.put, List.setIfInBounds_toArray, List.set_cons_zero, List.set_cons_succ]
        refine wpAnyH_take (i := 2) (v := .string Q) rfl (by kernel_rfl) (by kernel_rfl) (by kernel_rfl) (fun _ _ _ h => h) (yieldsIf_move _ rfl rfl rfl) hHeld ?_
        simp only [List.getElem_toArray, List.getElem_cons_succ, List.getElem_cons_zero, Act.put, List.setIfInBounds_toArray, List.set_cons_zero, List.set_cons_succ]
        refine wpAnyH_take (i := 3) (v := .int .i64 2180) rfl (by kernel_rfl) (by kernel_rfl) (by kernel_rfl) (fun _ _ _ h => h) (.inl ⟨by kernel_rfl, fun w _ => by go_simp⟩) hHeld ?_
        simp only [List.getElem_toArray, List.getElem_cons_succ, List.getElem_cons_zero, Act.put, List.setIfInBounds_toArray, List.set_cons_zero, List.set_cons_succ]
        refine wpAnyH_take (i := 4) (v := .bool true) rfl (by kernel_rfl) (by kernel_rfl) (by kernel_rfl) (fun _ _ _ h => h) (.inl ⟨by kernel_rfl, fun w _ => by go_simp⟩) hHeld ?_
        simp only [List.getElem_toArray, List.getElem_cons_succ, List.getElem_cons_zero, Act.put, List.setIfInBounds_toArray, List.set_cons_zero, List.set_cons_succ]
        refine wpAnyH_take (i := 5) (v := .bool true) rfl (by kernel_rfl) (by kernel_rfl) (by kernel_rfl) (fun _ _ _ h => h) (yieldsIf_move _ rfl rfl rfl) hHeld ?_
        simp only [List.getElem_toArray, List.getElem_cons_succ, List.getElem_cons_zero, Act.put, List.setIfInBounds_toArray, List.set_cons_zero, List.set_cons_succ]
        refine wpAnyH_take (i := 6) (v := .string P) rfl (by kernel_rfl) (by kernel_rfl) (by kernel_rfl) (fun _ _ _ h => h) (.inl ⟨by kernel_rfl, fun w _ => rfl⟩) hHeld ?_
        simp only [List.getElem_toArray, List.getElem_cons_succ, List.getElem_cons_zero, Act.put, List.setIfInBounds_toArray, List.set_cons_zero, List.set_cons_succ]
        refine wpAnyH_take (i := 7) (v := .string X) rfl (by kernel_rfl) (by kernel_rfl) (by kernel_rfl) (fun _ _ _ h => h) (.inl ⟨by kernel_rfl, fun w _ => by rw [← eP.out]; go_simp⟩) hHeld ?_
        simp only [List.getElem_toArray, List.getElem_cons_succ, List.getElem_cons_zero, Act.put, List.setIfInBounds_toArray, List.set_cons_zero, List.set_cons_succ]
        refine wpAnyH_take (i := 8) (v := .string Q) rfl (by kernel_rfl) (by kernel_rfl) (by kernel_rfl) (fun _ _ _ h => h) (.inl ⟨by kernel_rfl, fun w _ => rfl⟩) hHeld ?_
        simp only [List.getElem_toArray, List.getElem_cons_succ, List.getElem_cons_zero, Act.put, List.setIfInBounds_toArray, List.set_cons_zero, List.set_cons_succ]
        refine wpAnyH_take (i := 9) (v := .string X) rfl (by kernel_rfl) (by kernel_rfl) (by kernel_rfl) (fun _ _ _ h => h) (.inl ⟨by kernel_rfl, fun w _ => by rw [← eQ.out]; go_simp⟩) hHeld ?_
        simp only [List.getElem_toArray, List.getElem_cons_succ, List.getElem_cons_zero, Act.put, List.setIfInBounds_toArray, List.set_cons_zero, List.set_cons_succ]
        refine wpAnyH_take (i := 10) (v := .bool true) rfl (by kernel_rfl) (by kernel_rfl) (by kernel_rfl) (fun _ _ _ h => h) (.inl ⟨by kernel_rfl, fun w _ => by go_simp⟩) hHeld ?_
        simp only [List.getElem_toArray, List.getElem_cons_succ, List.getElem_cons_zero, Act.put, List.setIfInBounds_toArray, List.set_cons_zero, List.set_cons_succ]
        refine wpAnyH_take (i := 11) (v := .bool true) rfl (by kernel_rfl) (by kernel_rfl) (by kernel_rfl) (fun _ _ _ h => h) (yieldsIf_pick _ _ _ rfl rfl rfl rfl) hHeld ?_
        simp only [List.getElem_toArray, List.getElem_cons_succ, List.getElem_cons_zero, Act.put, List.setIfInBounds_toArray, List.set_cons_zero, List.set_cons_succ]
        refine wpAnyH_take (i := 12) (v := .bool true) rfl (by kernel_rfl) (by kernel_rfl) (by kernel_rfl) (fun _ _ _ h => h) (yieldsIf_move _ rfl rfl rfl) hHeld ?_
        simp only [List.getElem_toArray, List.getElem_cons_succ, List.getElem_cons_zero, Act.put, List.setIfInBounds_toArray, List.set_cons_zero, List.set_cons_succ]
        refine wpAnyH_take (i := 13) (v := .string P) rfl (by kernel_rfl) (by kernel_rfl) (by kernel_rfl) (fun _ _ _ h => h) (.inl ⟨by kernel_rfl, fun w _ => rfl⟩) hHeld ?_
        simp only [List.getElem_toArray, List.getElem_cons_succ, List.getElem_cons_zero, Act.put, List.setIfInBounds_toArray, List.set_cons_zero, List.set_cons_succ]
        refine wpAnyH_take (i := 14) (v := .string ⟨#[0, 0, 0, 3]⟩) rfl (by kernel_rfl) (by kernel_rfl) (by kernel_rfl) (fun _ _ _ h => h) (.inl ⟨by kernel_rfl, fun w _ => by rw [← e4.out]; go_simp⟩) hHeld ?_
        simp only [List.getElem_toArray, List.getElem_cons_succ, List.getElem_cons_zero, Act.put, List.setIfInBounds_toArray, List.set_cons_zero, List.set_cons_succ]
        refine wpAnyH_take (i := 15) (v := .bool true) rfl (by kernel_rfl) (by kernel_rfl) (by kernel_rfl) (fun _ _ _ h => h) (.inl ⟨by kernel_rfl, fun w _ => by go_simp⟩) hHeld ?_
        simp only [List.getElem_toArray, List.getElem_cons_succ, List.getElem_cons_zero, Act.put, List.setIfInBounds_toArray, List.set_cons_zero, List.set_cons_succ]
        refine wpAnyH_take (i := 16) (v := .bool true) rfl (by kernel_rfl) (by kernel_rfl) (by kernel_rfl) (fun _ _ _ h => h) (yieldsIf_pick _ _ _ rfl rfl rfl rfl) hHeld ?_
        simp only [List.getElem_toArray, List.getElem_cons_succ, List.getElem_cons_zero, Act.put, List.setIfInBounds_toArray, List.set_cons_zero, List.set_cons_succ]
        refine wpAnyH_take (i := 17) (v := .bool true) rfl (by kernel_rfl) (by kernel_rfl) (by kernel_rfl) (fun _ _ _ h => h) (yieldsIf_move _ rfl rfl rfl) hHeld ?_
        simp only [List.getElem_toArray, List.getElem_cons_succ, List.getElem_cons_zero, Act.put, List.setIfInBounds_toArray, List.set_cons_zero, List.set_cons_succ]
        refine wpAnyH_take (i := 18) (v := .string a) rfl (by kernel_rfl) (by kernel_rfl) (by kernel_rfl) (fun _ _ _ h => h) (.inl ⟨by kernel_rfl, fun w _ => rfl⟩) hHeld ?_
        simp only [List.getElem_toArray, List.getElem_cons_succ, List.getElem_cons_zero, Act.put, List.setIfInBounds_toArray, List.set_cons_zero, List.set_cons_succ]
        refine wpAnyH_take (i := 19) (v := .string b) rfl (by kernel_rfl) (by kernel_rfl) (by kernel_rfl) (fun _ _ _ h => h) (.inl ⟨by kernel_rfl, fun w _ => rfl⟩) hHeld ?_
        simp only [List.getElem_toArray, List.getElem_cons_succ, List.getElem_cons_zero, Act.put, List.setIfInBounds_toArray, List.set_cons_zero, List.set_cons_succ]
        refine wpAnyH_take (i := 20) (v := .bool false) rfl (by kernel_rfl) (by kernel_rfl) (by kernel_rfl) (fun _ _ _ h => h) (.inl ⟨by kernel_rfl, fun w _ => by go_simp⟩) hHeld ?_
        simp only [List.getElem_toArray, List.getElem_cons_succ, List.getElem_cons_zero, Act.put, List.setIfInBounds_toArray, List.set_cons_zero, List.set_cons_succ]
        refine wpAnyH_take (i := 21) (v := .bool false) rfl (by kernel_rfl) (by kernel_rfl) (by kernel_rfl) (fun _ _ _ h => h) (.inl ⟨by kernel_rfl, fun w _ => rfl⟩) hHeld ?_
        simp only [List.getElem_toArray, List.getElem_cons_succ, List.getElem_cons_zero, Act.put, List.setIfInBounds_toArray, List.set_cons_zero, List.set_cons_succ]
        refine wpAnyH_take (i := 22) (v := .string P) rfl (by kernel_rfl) (by kernel_rfl) (by kernel_rfl) (fun _ _ _ h => h) (.inl ⟨by kernel_rfl, fun w _ => rfl⟩) hHeld ?_
        simp only [List.getElem_toArray, List.getElem_cons_succ, List.getElem_cons_zero, Act.put, List.setIfInBounds_toArray, List.set_cons_zero, List.set_cons_succ]
        refine wpAnyH_take (i := 23) (v := .string Q) rfl (by kernel_rfl) (by kernel_rfl) (by kernel_rfl) (fun _ _ _ h => h) (.inl ⟨by kernel_rfl, fun w _ => rfl⟩) hHeld ?_
        simp only [List.getElem_toArray, List.getElem_cons_succ, List.getElem_cons_zero, Act.put, List.setIfInBounds_toArray, List.set_cons_zero, List.set_cons_succ]
        refine wpAnyH_take (i := 24) (v := .bool true) rfl (by kernel_rfl) (by kernel_rfl) (by kernel_rfl) (fun _ _ _ h => h) (.inl ⟨by kernel_rfl, fun w _ => by rw [hpq.out]; go_simp⟩) hHeld ?_
        simp only [List.getElem_toArray, List.getElem_cons_succ, List.getElem_cons_zero, Act.put, List.setIfInBounds_toArray, List.set_cons_zero, List.set_cons_succ]
        refine wpAnyH_take (i := 25) (v := .bool true) rfl (by kernel_rfl) (by kernel_rfl) (by kernel_rfl) (fun _ _ _ h => h) (.inl ⟨by kernel_rfl, fun w _ => by go_simp⟩) hHeld ?_
        simp only [List.getElem_toArray, List.getElem_cons_succ, List.getElem_cons_zero, Act.put, List.setIfInBounds_toArray, List.set_cons_zero, List.set_cons_succ]
        refine wpAnyH_take (i := 26) (v := .bool true) rfl (by kernel_rfl) (by kernel_rfl) (by kernel_rfl) (fun _ _ _ h => h) (yieldsIf_pick _ _ _ rfl rfl rfl rfl) hHeld ?_
        simp only [List.getElem_toArray, List.getElem_cons_succ, List.getElem_cons_zero, Act.put, List.setIfInBounds_toArray, List.set_cons_zero, List.set_cons_succ]
        refine wpAnyH_take (i := 27) (v := .bool true) rfl (by kernel_rfl) (by kernel_rfl) (by kernel_rfl) (fun _ _ _ h => h) (yieldsIf_assign _ rfl rfl rfl) hHeld ?_
        simp only [List.getElem_toArray, List.getElem_cons_succ, List.getElem_cons_zero, Act.put, List.setIfInBounds_toArray, List.set_cons_zero, List.set_cons_succ]
        refine wpAnyH_done (by kernel_rfl) ?_ _
        go_wp2_with fail
        go_ret
        exact ⟨rfl, hb5'.out⟩
      · have hne : ¬ a.toList = b.toList := by rw [ByteArray.toList_eq, ByteArray.toList_eq]; exact fun h => hab (bytes_ext h)
        clear hsame hab
        refine wp_region_held_drew (S := fun _ => True) (by kernel_rfl) (by exact True.intro) (fun hHeld => ?_)
        refine wpAnyH_take (i := 0) (v := .string P) rfl (by kernel_rfl) (by kernel_rfl) (by kernel_rfl) (fun _ _ _ h => h) (yieldsIf_move _ rfl rfl rfl) hHeld ?_
        simp only [List.getElem_toArray, List.getElem_cons_succ, List.getElem_cons_zero, Act.put, List.setIfInBounds_toArray, List.set_cons_zero, List.set_cons_succ]
        refine wpAnyH_take (i := 1) (v := .int .i64 2180) rfl (by kernel_rfl) (by kernel_rfl) (by kernel_rfl) (fun _ _ _ h => h) (.inl ⟨by kernel_rfl, fun w _ => by go_simp⟩) hHeld ?_
        simp only [List.getElem_toArray, List.getElem_cons_succ, List.getElem_cons_zero, Act.put, List.setIfInBounds_toArray, List.set_cons_zero, List.set_cons_succ]
        refine wpAnyH_take (i := 2) (v := .string Q) rfl (by kernel_rfl) (by kernel_rfl) (by kernel_rfl) (fun _ _ _ h => h) (yieldsIf_move _ rfl rfl rfl) hHeld ?_
        simp only [List.getElem_toArray, List.getElem_cons_succ, List.getElem_cons_zero, Act.put, List.setIfInBounds_toArray, List.set_cons_zero, List.set_cons_succ]
        refine wpAnyH_take (i := 3) (v := .int .i64 2180) rfl (by kernel_rfl) (by kernel_rfl) (by kernel_rfl) (fun _ _ _ h => h) (.inl ⟨by kernel_rfl, fun w _ => by go_simp⟩) hHeld ?_
        simp only [List.getElem_toArray, List.getElem_cons_succ, List.getElem_cons_zero, Act.put, List.setIfInBounds_toArray, List.set_cons_zero, List.set_cons_succ]
        refine wpAnyH_take (i := 4) (v := .bool true) rfl (by kernel_rfl) (by kernel_rfl) (by kernel_rfl) (fun _ _ _ h => h) (.inl ⟨by kernel_rfl, fun w _ => by go_simp⟩) hHeld ?_
        simp only [List.getElem_toArray, List.getElem_cons_succ, List.getElem_cons_zero, Act.put, List.setIfInBounds_toArray, List.set_cons_zero, List.set_cons_succ]
        refine wpAnyH_take (i := 5) (v := .bool true) rfl (by kernel_rfl) (by kernel_rfl) (by kernel_rfl) (fun _ _ _ h => h) (yieldsIf_move _ rfl rfl rfl) hHeld ?_
        simp only [List.getElem_toArray, List.getElem_cons_succ, List.getElem_cons_zero, Act.put, List.setIfInBounds_toArray, List.set_cons_zero, List.set_cons_succ]
        refine wpAnyH_take (i := 6) (v := .string P) rfl (by kernel_rfl) (by kernel_rfl) (by kernel_rfl) (fun _ _ _ h => h) (.inl ⟨by kernel_rfl, fun w _ => rfl⟩) hHeld ?_
        simp only [List.getElem_toArray, List.getElem_cons_succ, List.getElem_cons_zero, Act.put, List.setIfInBounds_toArray, List.set_cons_zero, List.set_cons_succ]
        refine wpAnyH_take (i := 7) (v := .string X) rfl (by kernel_rfl) (by kernel_rfl) (by kernel_rfl) (fun _ _ _ h => h) (.inl ⟨by kernel_rfl, fun w _ => by rw [← eP.out]; go_simp⟩) hHeld ?_
        simp only [List.getElem_toArray, List.getElem_cons_succ, List.getElem_cons_zero, Act.put, List.setIfInBounds_toArray, List.set_cons_zero, List.set_cons_succ]
        refine wpAnyH_take (i := 8) (v := .string Q) rfl (by kernel_rfl) (by kernel_rfl) (by kernel_rfl) (fun _ _ _ h => h) (.inl ⟨by kernel_rfl, fun w _ => rfl⟩) hHeld ?_
        simp only [List.getElem_toArray, List.getElem_cons_succ, List.getElem_cons_zero, Act.put, List.setIfInBounds_toArray, List.set_cons_zero, List.set_cons_succ]
        refine wpAnyH_take (i := 9) (v := .string X) rfl (by kernel_rfl) (by kernel_rfl) (by kernel_rfl) (fun _ _ _ h => h) (.inl ⟨by kernel_rfl, fun w _ => by rw [← eQ.out]; go_simp⟩) hHeld ?_
        simp only [List.getElem_toArray, List.getElem_cons_succ, List.getElem_cons_zero, Act.put, List.setIfInBounds_toArray, List.set_cons_zero, List.set_cons_succ]
        refine wpAnyH_take (i := 10) (v := .bool true) rfl (by kernel_rfl) (by kernel_rfl) (by kernel_rfl) (fun _ _ _ h => h) (.inl ⟨by kernel_rfl, fun w _ => by go_simp⟩) hHeld ?_
        simp only [List.getElem_toArray, List.getElem_cons_succ, List.getElem_cons_zero, Act.put, List.setIfInBounds_toArray, List.set_cons_zero, List.set_cons_succ]
        refine wpAnyH_take (i := 11) (v := .bool true) rfl (by kernel_rfl) (by kernel_rfl) (by kernel_rfl) (fun _ _ _ h => h) (yieldsIf_pick _ _ _ rfl rfl rfl rfl) hHeld ?_
        simp only [List.getElem_toArray, List.getElem_cons_succ, List.getElem_cons_zero, Act.put, List.setIfInBounds_toArray, List.set_cons_zero, List.set_cons_succ]
        refine wpAnyH_take (i := 12) (v := .bool true) rfl (by kernel_rfl) (by kernel_rfl) (by kernel_rfl) (fun _ _ _ h => h) (yieldsIf_move _ rfl rfl rfl) hHeld ?_
        simp only [List.getElem_toArray, List.getElem_cons_succ, List.getElem_cons_zero, Act.put, List.setIfInBounds_toArray, List.set_cons_zero, List.set_cons_succ]
        refine wpAnyH_take (i := 13) (v := .string P) rfl (by kernel_rfl) (by kernel_rfl) (by kernel_rfl) (fun _ _ _ h => h) (.inl ⟨by kernel_rfl, fun w _ => rfl⟩) hHeld ?_
        simp only [List.getElem_toArray, List.getElem_cons_succ, List.getElem_cons_zero, Act.put, List.setIfInBounds_toArray, List.set_cons_zero, List.set_cons_succ]
        refine wpAnyH_take (i := 14) (v := .string ⟨#[0, 0, 0, 3]⟩) rfl (by kernel_rfl) (by kernel_rfl) (by kernel_rfl) (fun _ _ _ h => h) (.inl ⟨by kernel_rfl, fun w _ => by rw [← e4.out]; go_simp⟩) hHeld ?_
        simp only [List.getElem_toArray, List.getElem_cons_succ, List.getElem_cons_zero, Act.put, List.setIfInBounds_toArray, List.set_cons_zero, List.set_cons_succ]
        refine wpAnyH_take (i := 15) (v := .bool true) rfl (by kernel_rfl) (by kernel_rfl) (by kernel_rfl) (fun _ _ _ h => h) (.inl ⟨by kernel_rfl, fun w _ => by go_simp⟩) hHeld ?_
        simp only [List.getElem_toArray, List.getElem_cons_succ, List.getElem_cons_zero, Act.put, List.setIfInBounds_toArray, List.set_cons_zero, List.set_cons_succ]
        refine wpAnyH_take (i := 16) (v := .bool true) rfl (by kernel_rfl) (by kernel_rfl) (by kernel_rfl) (fun _ _ _ h => h) (yieldsIf_pick _ _ _ rfl rfl rfl rfl) hHeld ?_
        simp only [List.getElem_toArray, List.getElem_cons_succ, List.getElem_cons_zero, Act.put, List.setIfInBounds_toArray, List.set_cons_zero, List.set_cons_succ]
        refine wpAnyH_take (i := 17) (v := .bool true) rfl (by kernel_rfl) (by kernel_rfl) (by kernel_rfl) (fun _ _ _ h => h) (yieldsIf_move _ rfl rfl rfl) hHeld ?_
        simp only [List.getElem_toArray, List.getElem_cons_succ, List.getElem_cons_zero, Act.put, List.setIfInBounds_toArray, List.set_cons_zero, List.set_cons_succ]
        refine wpAnyH_take (i := 18) (v := .string a) rfl (by kernel_rfl) (by kernel_rfl) (by kernel_rfl) (fun _ _ _ h => h) (.inl ⟨by kernel_rfl, fun w _ => rfl⟩) hHeld ?_
        simp only [List.getElem_toArray, List.getElem_cons_succ, List.getElem_cons_zero, Act.put, List.setIfInBounds_toArray, List.set_cons_zero, List.set_cons_succ]
        refine wpAnyH_take (i := 19) (v := .string b) rfl (by kernel_rfl) (by kernel_rfl) (by kernel_rfl) (fun _ _ _ h => h) (.inl ⟨by kernel_rfl, fun w _ => rfl⟩) hHeld ?_
        simp only [List.getElem_toArray, List.getElem_cons_succ, List.getElem_cons_zero, Act.put, List.setIfInBounds_toArray, List.set_cons_zero, List.set_cons_succ]
        refine wpAnyH_take (i := 20) (v := .bool true) rfl (by kernel_rfl) (by kernel_rfl) (by kernel_rfl) (fun _ _ _ h => h) (.inl ⟨by kernel_rfl, fun w _ => by go_simp⟩) hHeld ?_
        simp only [List.getElem_toArray, List.getElem_cons_succ, List.getElem_cons_zero, Act.put, List.setIfInBounds_toArray, List.set_cons_zero, List.set_cons_succ]
        refine wpAnyH_take (i := 21) (v := .bool true) rfl (by kernel_rfl) (by kernel_rfl) (by kernel_rfl) (fun _ _ _ h => h) (.inl ⟨by kernel_rfl, fun w _ => rfl⟩) hHeld ?_
        simp only [List.getElem_toArray, List.getElem_cons_succ, List.getElem_cons_zero, Act.put, List.setIfInBounds_toArray, List.set_cons_zero, List.set_cons_succ]
        refine wpAnyH_take (i := 22) rfl (by kernel_rfl) (by kernel_rfl) (by kernel_rfl) (fun _ _ _ h => h) (.inr ⟨by kernel_rfl, rfl⟩) hHeld ?_
        simp only [List.getElem_toArray, List.getElem_cons_succ, List.getElem_cons_zero, Act.put, List.setIfInBounds_toArray, List.set_cons_zero, List.set_cons_succ]
        refine wpAnyH_take (i := 23) rfl (by kernel_rfl) (by kernel_rfl) (by kernel_rfl) (fun _ _ _ h => h) (.inr ⟨by kernel_rfl, rfl⟩) hHeld ?_
        simp only [List.getElem_toArray, List.getElem_cons_succ, List.getElem_cons_zero, Act.put, List.setIfInBounds_toArray, List.set_cons_zero, List.set_cons_succ]
        refine wpAnyH_take (i := 24) rfl (by kernel_rfl) (by kernel_rfl) (by kernel_rfl) (fun _ _ _ h => h) (.inr ⟨by kernel_rfl, rfl⟩) hHeld ?_
        simp only [List.getElem_toArray, List.getElem_cons_succ, List.getElem_cons_zero, Act.put, List.setIfInBounds_toArray, List.set_cons_zero, List.set_cons_succ]
        refine wpAnyH_take (i := 25) (v := .bool true) rfl (by kernel_rfl) (by kernel_rfl) (by kernel_rfl) (fun _ _ _ h => h) (.inl ⟨by kernel_rfl, fun w _ => by go_simp⟩) hHeld ?_
        simp only [List.getElem_toArray, List.getElem_cons_succ, List.getElem_cons_zero, Act.put, List.setIfInBounds_toArray, List.set_cons_zero, List.set_cons_succ]
        refine wpAnyH_take (i := 26) (v := .bool true) rfl (by kernel_rfl) (by kernel_rfl) (by kernel_rfl) (fun _ _ _ h => h) (yieldsIf_pick _ _ _ rfl rfl rfl rfl) hHeld ?_
        simp only [List.getElem_toArray, List.getElem_cons_succ, List.getElem_cons_zero, Act.put, List.setIfInBounds_toArray, List.set_cons_zero, List.set_cons_succ]
        refine wpAnyH_take (i := 27) (v := .bool true) rfl (by kernel_rfl) (by kernel_rfl) (by kernel_rfl) (fun _ _ _ h => h) (yieldsIf_assign _ rfl rfl rfl) hHeld ?_
        simp only [List.getElem_toArray, List.getElem_cons_succ, List.getElem_cons_zero, Act.put, List.setIfInBounds_toArray, List.set_cons_zero, List.set_cons_succ]
        refine wpAnyH_done (by kernel_rfl) ?_ _
        go_wp2_with fail
        go_ret
        exact ⟨rfl, hb5'.out⟩
    · rw [sign_long _ _ _ _ _ h2] at hB
      obtain ⟨a1, -⟩ := sign3 1 I S a hg h1
      rw [a1] at hA
      have hbig : decide ((65536 : Int) < (b.size : Int)) = true := by simp; omega
      have hsm : decide ((65536 : Int) < (a.size : Int)) = false := by simp; omega
      generalize (signAns 3 1 I S a).1 = P at *
      clear hI hS hg a1 z1 z2
      go_enter Try.func7, Try.ntmps7
      go_wp2_with fail
      refine (awake4_any _).mono ?_
      rintro e W0 ⟨rfl, hb0⟩
      have hb0' := hid hb0
      clear hb0
      go_wp2_with fail
      refine (hf1.out _).mono ?_
      rintro e W1 ⟨rfl, hb1⟩
      have hb1' := hid (below_up hb1 hb0'.out)
      clear hb1
      go_wp2_with fail
      refine (hf2.out _).mono ?_
      rintro e W2 ⟨rfl, hb2⟩
      have hb2' := hid (below_up hb2 hb1'.out)
      clear hb2
      go_wp2_with fail
      refine (hA.out _).mono ?_
      rintro e W3 ⟨rfl, hb3⟩
      have hb3' := hid (below_up hb3 hb2'.out)
      clear hb3
      go_wp2_with fail
      refine (hB.out _).mono ?_
      rintro e W4 ⟨rfl, hb4⟩
      have hb4' := hid (below_up hb4 hb3'.out)
      clear hb4
      go_wp2_with (go_at_call 17; refine (errNum_any _ _).mono ?_; rintro e w' ⟨rfl, rfl⟩)
      go_ret
      exact ⟨rfl, hb4'.out⟩
  · rw [sign_long _ _ _ _ _ h1] at hA
    obtain ⟨G, hG⟩ : ∃ G, (signAns 3 1 I S b).1 = G := ⟨_, rfl⟩
    obtain ⟨r, hr⟩ : ∃ r, (signAns 3 1 I S b).2 = r := ⟨_, rfl⟩
    rw [hG, hr] at hB
    have hbig : decide ((65536 : Int) < (a.size : Int)) = true := by simp; omega
    clear hI hS hg hG hr z1 z2
    go_enter Try.func7, Try.ntmps7
    go_wp2_with fail
    refine (awake4_any _).mono ?_
    rintro e W0 ⟨rfl, hb0⟩
    have hb0' := hid hb0
    clear hb0
    go_wp2_with fail
    refine (hf1.out _).mono ?_
    rintro e W1 ⟨rfl, hb1⟩
    have hb1' := hid (below_up hb1 hb0'.out)
    clear hb1
    go_wp2_with fail
    refine (hf2.out _).mono ?_
    rintro e W2 ⟨rfl, hb2⟩
    have hb2' := hid (below_up hb2 hb1'.out)
    clear hb2
    go_wp2_with fail
    refine (hA.out _).mono ?_
    rintro e W3 ⟨rfl, hb3⟩
    have hb3' := hid (below_up hb3 hb2'.out)
    clear hb3
    go_wp2_with fail
    refine (hB.out _).mono ?_
    rintro e W4 ⟨rfl, hb4⟩
    have hb4' := hid (below_up hb4 hb3'.out)
    clear hb4
    go_wp2_with (go_at_call 17; refine (errNum_any _ _).mono ?_; rintro e w' ⟨rfl, rfl⟩)
    go_ret
    exact ⟨rfl, hb4'.out⟩

end Go.Proofs.Ythefnghcdbmpnaa
namespace Go.Proofs.Ythefnghcdbmpnaa
open Go.RowKit
open Go.Lib (strCells strCells_length strCells_oneCell)
attribute [local irreducible] Sha.compress Sha.blocks Sha.sha Sha.pad

theorem mask63 (q : Int) : ∃ n : Nat, n ≤ 63 ∧ bits .and .i64 q 63 = (n : Int) := by
  have e : bits .and .i64 q 63 = IntKind.i64.wrap ((BitVec.ofInt 64 q &&& BitVec.ofInt 64 63).toNat : Int) := rfl
  have h2 : (BitVec.ofInt 64 63).toNat = 63 := by decide
  have hle : (BitVec.ofInt 64 q &&& BitVec.ofInt 64 63).toNat ≤ 63 := by
    rw [BitVec.toNat_and, h2]
    exact Nat.and_le_right
  refine ⟨_, hle, ?_⟩
  rw [e, IntWalk.i64_in _ (by omega)]

theorem pub_none (kind q : Int) (id seed : ByteArray) (h : ¬ (Ots.may id.size q = true ∧ seed.size = 32)) : pubAns kind q id seed = (.agg z32, 400) := by
  have e : otsGood kind q id seed = none := by
    unfold otsGood
    cases Ots.par kind with
    | none => rfl
    | some o => simp only [if_neg h]
  unfold pubAns
  rw [e]

theorem cand_may (q : Int) (id msg s : ByteArray) (h : ¬ Ots.may id.size q = true) : candAns q id msg s = (.agg z32, 400) := by
  have e : candGood q id msg s = none := by
    unfold candGood
    split
    · rfl
    · cases Ots.par (numL (s.data.toList.take 4) : Int) with
      | none => rfl
      | some o => simp only [if_neg (fun hh : s.size = 36 + 32 * o.p ∧ Ots.may id.size q = true ∧ msg.size ≤ 65536 => h hh.2.1)]
  unfold candAns
  rw [e]

theorem cand_size (q : Int) (id msg s : ByteArray) (l : List UInt8) (hl : s.data.toList.take 4 = l) (h : ∀ o, Ots.par (numL l : Int) = some o → s.size ≠ 36 + 32 * o.p) : candAns q id msg s = (.agg z32, 400) := by
  have e : candGood q id msg s = none := by
    unfold candGood
    split
    · rfl
    · rw [hl]
      cases hp : Ots.par (numL l : Int) with
      | none => rfl
      | some o => simp only [if_neg (fun hh : s.size = 36 + 32 * o.p ∧ Ots.may id.size q = true ∧ msg.size ≤ 65536 => h o hp hh.1)]
  unfold candAns
  rw [e]

theorem may_size {n : Nat} {q : Int} (h : n ≠ 16) : ¬ Ots.may n q = true := by
  simp only [Ots.may, decide_eq_true_eq]
  omega
theorem may_q {n : Nat} {q : Int} (h : q < 0 ∨ 4294967295 < q) : ¬ Ots.may n q = true := by
  simp only [Ots.may, decide_eq_true_eq]
  omega

theorem take_front (a b : ByteArray) (k : Nat) (h : k ≤ a.size) : (a ++ b).data.toList.take k = a.data.toList.take k := by
  rw [data_append, List.take_append_of_le_length (by rw [data_length]; exact h)]

theorem ext0 (s : ByteArray) (m : Nat) (h : m ≤ s.size) : (s.extract 0 m).size = m := by
  rw [← data_length, cut_list, List.length_take, data_length]
  omega

set_option maxRecDepth 100000 in
set_option maxHeartbeats 4000000 in
theorem OtsForms_0 {w : World} (which x : Int) (hK : (IntKind.u64.wrap which).tmod 8 = 0) :
    Calls Try.prog 6 #[.int .i64 which, .int .i64 x] w fun e w' => e = .returned (.bool true) ∧ Below w.heap.size w w' := by
  obtain ⟨n, hn, hand⟩ := mask63 x
  have hf1 := hid (fun W => filled_any ⟨#[105]⟩ 16 (by decide) (by decide) W)
  have hf2 := hid (fun W => filled_any ⟨#[115]⟩ 32 (by decide) (by decide) W)
  have hf3 := hid (fun W => filled_any ⟨#[115]⟩ (33 + n) (by omega) (by decide) W)
  have c3 : ((33 + n : Nat) : Int) = 32 + (1 + (n : Int)) := by omega
  rw [c3] at hf3
  have z1 := fillT_size ⟨#[105]⟩ 16
  have z2 := fillT_size ⟨#[115]⟩ 32
  have z3 := fillT_size ⟨#[115]⟩ (33 + n)
  obtain ⟨I, hI⟩ : ∃ I, fillT ⟨#[105]⟩ 16 = I := ⟨_, rfl⟩
  obtain ⟨S, hS⟩ : ∃ S, fillT ⟨#[115]⟩ 32 = S := ⟨_, rfl⟩
  obtain ⟨S3, hS3⟩ : ∃ S, fillT ⟨#[115]⟩ (33 + n) = S := ⟨_, rfl⟩
  rw [hI] at hf1 z1
  rw [hS] at hf2 z2
  rw [hS3] at hf3 z3
  have hg := good3 7 I S (may_ok I 7 z1 (by decide)) z2
  obtain ⟨a1, a2, a3, -⟩ := sign3 7 I S ⟨#[109]⟩ hg (by decide)
  have hG := hid (fun W => Sign_any 3 7 I S ⟨#[109]⟩ (by decide) W)
  rw [a1] at hG
  obtain ⟨s, hs⟩ : ∃ s, (signAns 3 7 I S ⟨#[109]⟩).1 = s := ⟨_, rfl⟩
  rw [hs] at hG a2 a3
  have hP3 := hid (fun W => Public_any 3 7 I S3 W)
  rw [pub_none 3 7 I S3 (fun h => by have := h.2; omega)] at hP3
  have hsi : (s.size : Int) = 2180 := by omega
  have h3t : s.data.toList.take 4 = [0, 0, 0, 3] := by rw [← cut_list, a3]
  have hfx := hid (fun W => filled_any ⟨#[105]⟩ (17 + n) (by omega) (by decide) W)
  have cx : ((17 + n : Nat) : Int) = 16 + (1 + (n : Int)) := by omega
  rw [cx] at hfx
  have zx := fillT_size ⟨#[105]⟩ (17 + n)
  obtain ⟨X, hX⟩ : ∃ X, fillT ⟨#[105]⟩ (17 + n) = X := ⟨_, rfl⟩
  rw [hX] at hfx zx
  have hQ := hid (fun W => Candidate_any 7 X ⟨#[109]⟩ s (by decide) (by omega) W)
  rw [cand_may 7 X _ s (may_size (by omega))] at hQ
  obtain ⟨cs, hce⟩ : ∃ cs, z32.toList = cs := ⟨_, rfl⟩
  have hC' := hid zero_cells
  rw [hce] at hC'
  have hza : cs.toArray = z32 := by rw [← hce]
  have hP := hid (fun W => Public_any 3 7 X S W)
  rw [pub_none 3 7 X S (fun h => may_size (by omega) h.1), ← hza] at hP
  clear hce hza
  clear hX zx cx
  have hz1 : (I.size : Int) = 16 := by omega
  clear hI hS hS3 hg a1 hs z2 z3 c3 a2 a3 h3t z1
  go_enter Try.func6, Try.ntmps6
  go_wp2_with fail
  refine (awake4_any _).mono ?_
  rintro e W0 ⟨rfl, hb0⟩
  have hb0' := hid hb0
  clear hb0
  go_wp2_with fail
  refine (hf1.out _).mono ?_
  rintro e W1 ⟨rfl, hb1⟩
  have hb1' := hid (below_up hb1 hb0'.out)
  clear hb1
  go_wp2_with fail
  refine (hf2.out _).mono ?_
  rintro e W2 ⟨rfl, hb2⟩
  have hb2' := hid (below_up hb2 hb1'.out)
  clear hb2
  go_wp2_with fail
  refine (hG.out _).mono ?_
  rintro e W3 ⟨rfl, hb3⟩
  have hb3' := hid (below_up hb3 hb2'.out)
  clear hb3
  go_wp2_with (go_at_call 17; refine (errNum_any _ _).mono ?_; rintro e w' ⟨rfl, rfl⟩)
  refine (hfx.out _).mono ?_
  rintro e W4 ⟨rfl, hb4⟩
  have hb4' := hid (below_up hb4 hb3'.out)
  clear hb4
  go_wp2_with fail
  refine (hQ.out _).mono ?_
  rintro e W6 ⟨rfl, hb6⟩
  have hb6' := hid (below_up hb6 hb4'.out)
  clear hb6
  rename_i hK1
  refine hK1 _ _ ?_
  clear hK1
  go_wp2_with (first
    | ((with_reducible refine at_slot (some 12) ?_); refine wpList_run rfl (.pointer (some ⟨W6.heap.size, 0, none⟩)) (W6.alloc (.cells z32 23)) (by kernel_rfl) ?_)
    | ((with_reducible refine at_slot none ?_); refine wpList_store_mid rfl 23 (.tmp 12) (.tmp 93) rfl W6.heap.size 0 z32 rfl rfl (by exact zero_cells.there W6) (by exact zero_cells.size) (by exact zero_cells.one) ?_; generalize hW7 : World.setCells _ _ _ _ = W7))
  obtain ⟨-, hb7⟩ := zero_cells.new hW7
  have hb7' := hid (below_up hb7 hb6'.out)
  clear hW7 hb7
  refine (hP.out _).mono ?_
  rintro e W8 ⟨rfl, hb8⟩
  have hb8' := hid (below_up hb8 hb7'.out)
  clear hb8
  rename_i hK1
  refine hK1 _ _ ?_
  clear hK1
  go_wp2_with (first
    | ((with_reducible refine at_slot (some 14) ?_); refine wpList_run rfl (.pointer (some ⟨W8.heap.size, 0, none⟩)) (W8.alloc (.cells z32 23)) (by kernel_rfl) ?_)
    | ((with_reducible refine at_slot none ?_); refine wpList_store_mid rfl 23 (.tmp 14) (.tmp 101) rfl W8.heap.size 0 cs.toArray rfl rfl (by exact hC'.out.there W8) (by exact hC'.out.size) (by exact hC'.out.one) ?_; generalize hW9 : World.setCells _ _ _ _ = W9))
  obtain ⟨-, hb9⟩ := hC'.out.new hW9
  have hb9' := hid (below_up hb9 hb8'.out)
  clear hW9 hb9
  refine (hf1.out _).mono ?_
  rintro e W10 ⟨rfl, hb10⟩
  have hb10' := hid (below_up hb10 hb9'.out)
  clear hb10
  go_wp2_with fail
  refine (hf3.out _).mono ?_
  rintro e W11 ⟨rfl, hb11⟩
  have hb11' := hid (below_up hb11 hb10'.out)
  clear hb11
  go_wp2_with fail
  refine (hP3.out _).mono ?_
  rintro e W12 ⟨rfl, hb12⟩
  have hb12' := hid (below_up hb12 hb11'.out)
  clear hb12
  rename_i hK1
  refine hK1 _ _ ?_
  clear hK1
  go_wp2_with (first
    | ((with_reducible refine at_slot (some 17) ?_); refine wpList_run rfl (.pointer (some ⟨W12.heap.size, 0, none⟩)) (W12.alloc (.cells z32 23)) (by kernel_rfl) ?_)
    | ((with_reducible refine at_slot none ?_); refine wpList_store_mid rfl 23 (.tmp 17) (.tmp 114) rfl W12.heap.size 0 z32 rfl rfl (by exact zero_cells.there W12) (by exact zero_cells.size) (by exact zero_cells.one) ?_; generalize hW13 : World.setCells _ _ _ _ = W13
       obtain ⟨-, hb13⟩ := zero_cells.new hW13
       have hb13' := hid (below_up hb13 hb12'.out)
       clear hW13 hb13)
    | (go_at_call 17; refine (errNum_any _ _).mono ?_; rintro e w' ⟨rfl, rfl⟩)
    | fail)
  go_ret
  exact ⟨rfl, hb13'.out⟩

set_option maxRecDepth 100000 in
set_option maxHeartbeats 4000000 in
theorem OtsForms_1 {w : World} (which x : Int) (hK : (IntKind.u64.wrap which).tmod 8 = 1) :
    Calls Try.prog 6 #[.int .i64 which, .int .i64 x] w fun e w' => e = .returned (.bool true) ∧ Below w.heap.size w w' := by
  obtain ⟨n, hn, hand⟩ := mask63 x
  have hf1 := hid (fun W => filled_any ⟨#[105]⟩ 16 (by decide) (by decide) W)
  have hf2 := hid (fun W => filled_any ⟨#[115]⟩ 32 (by decide) (by decide) W)
  have hf3 := hid (fun W => filled_any ⟨#[115]⟩ (33 + n) (by omega) (by decide) W)
  have c3 : ((33 + n : Nat) : Int) = 32 + (1 + (n : Int)) := by omega
  rw [c3] at hf3
  have z1 := fillT_size ⟨#[105]⟩ 16
  have z2 := fillT_size ⟨#[115]⟩ 32
  have z3 := fillT_size ⟨#[115]⟩ (33 + n)
  obtain ⟨I, hI⟩ : ∃ I, fillT ⟨#[105]⟩ 16 = I := ⟨_, rfl⟩
  obtain ⟨S, hS⟩ : ∃ S, fillT ⟨#[115]⟩ 32 = S := ⟨_, rfl⟩
  obtain ⟨S3, hS3⟩ : ∃ S, fillT ⟨#[115]⟩ (33 + n) = S := ⟨_, rfl⟩
  rw [hI] at hf1 z1
  rw [hS] at hf2 z2
  rw [hS3] at hf3 z3
  have hg := good3 7 I S (may_ok I 7 z1 (by decide)) z2
  obtain ⟨a1, a2, a3, -⟩ := sign3 7 I S ⟨#[109]⟩ hg (by decide)
  have hG := hid (fun W => Sign_any 3 7 I S ⟨#[109]⟩ (by decide) W)
  rw [a1] at hG
  obtain ⟨s, hs⟩ : ∃ s, (signAns 3 7 I S ⟨#[109]⟩).1 = s := ⟨_, rfl⟩
  rw [hs] at hG a2 a3
  have hP3 := hid (fun W => Public_any 3 7 I S3 W)
  rw [pub_none 3 7 I S3 (fun h => by have := h.2; omega)] at hP3
  have hsi : (s.size : Int) = 2180 := by omega
  have h3t : s.data.toList.take 4 = [0, 0, 0, 3] := by rw [← cut_list, a3]
  have hmn : min (1 + (n : Int)) 16 = ((min (1 + n) 16 : Nat) : Int) := by omega
  obtain ⟨mm, hmm, hm1, hm2⟩ : ∃ mm : Nat, 16 - ((min (1 + n) 16 : Nat) : Int) = (mm : Int) ∧ mm < 16 ∧ 0 ≤ mm := ⟨16 - min (1 + n) 16, by omega, by omega, by omega⟩
  obtain ⟨X, hX⟩ : ∃ X, I.extract 0 mm = X := ⟨_, rfl⟩
  have zx := ext0 I mm (by omega)
  rw [hX] at zx
  have hQ := hid (fun W => Candidate_any 7 X ⟨#[109]⟩ s (by decide) (by omega) W)
  rw [cand_may 7 X _ s (may_size (by omega))] at hQ
  obtain ⟨cs, hce⟩ : ∃ cs, z32.toList = cs := ⟨_, rfl⟩
  have hC' := hid zero_cells
  rw [hce] at hC'
  have hza : cs.toArray = z32 := by rw [← hce]
  have hP := hid (fun W => Public_any 3 7 X S W)
  rw [pub_none 3 7 X S (fun h => may_size (by omega) h.1), ← hza] at hP
  clear hce hza
  have hz1 : (I.size : Int) = 16 := by omega
  clear hI hS hS3 hg a1 hs z2 z3 c3 a2 a3 h3t z1
  go_enter Try.func6, Try.ntmps6
  go_wp2_with fail
  refine (awake4_any _).mono ?_
  rintro e W0 ⟨rfl, hb0⟩
  have hb0' := hid hb0
  clear hb0
  go_wp2_with fail
  refine (hf1.out _).mono ?_
  rintro e W1 ⟨rfl, hb1⟩
  have hb1' := hid (below_up hb1 hb0'.out)
  clear hb1
  go_wp2_with fail
  refine (hf2.out _).mono ?_
  rintro e W2 ⟨rfl, hb2⟩
  have hb2' := hid (below_up hb2 hb1'.out)
  clear hb2
  go_wp2_with fail
  refine (hG.out _).mono ?_
  rintro e W3 ⟨rfl, hb3⟩
  have hb3' := hid (below_up hb3 hb2'.out)
  clear hb3
  go_wp2_with (go_at_call 17; refine (errNum_any _ _).mono ?_; rintro e w' ⟨rfl, rfl⟩)

  go_wp2_with fail
  refine (hQ.out _).mono ?_
  rintro e W6 ⟨rfl, hb6⟩
  have hb6' := hid (below_up hb6 hb3'.out)
  clear hb6
  rename_i hK1
  refine hK1 _ _ ?_
  clear hK1
  go_wp2_with (first
    | ((with_reducible refine at_slot (some 12) ?_); refine wpList_run rfl (.pointer (some ⟨W6.heap.size, 0, none⟩)) (W6.alloc (.cells z32 23)) (by kernel_rfl) ?_)
    | ((with_reducible refine at_slot none ?_); refine wpList_store_mid rfl 23 (.tmp 12) (.tmp 93) rfl W6.heap.size 0 z32 rfl rfl (by exact zero_cells.there W6) (by exact zero_cells.size) (by exact zero_cells.one) ?_; generalize hW7 : World.setCells _ _ _ _ = W7))
  obtain ⟨-, hb7⟩ := zero_cells.new hW7
  have hb7' := hid (below_up hb7 hb6'.out)
  clear hW7 hb7
  refine (hP.out _).mono ?_
  rintro e W8 ⟨rfl, hb8⟩
  have hb8' := hid (below_up hb8 hb7'.out)
  clear hb8
  rename_i hK1
  refine hK1 _ _ ?_
  clear hK1
  go_wp2_with (first
    | ((with_reducible refine at_slot (some 14) ?_); refine wpList_run rfl (.pointer (some ⟨W8.heap.size, 0, none⟩)) (W8.alloc (.cells z32 23)) (by kernel_rfl) ?_)
    | ((with_reducible refine at_slot none ?_); refine wpList_store_mid rfl 23 (.tmp 14) (.tmp 101) rfl W8.heap.size 0 cs.toArray rfl rfl (by exact hC'.out.there W8) (by exact hC'.out.size) (by exact hC'.out.one) ?_; generalize hW9 : World.setCells _ _ _ _ = W9))
  obtain ⟨-, hb9⟩ := hC'.out.new hW9
  have hb9' := hid (below_up hb9 hb8'.out)
  clear hW9 hb9
  refine (hf1.out _).mono ?_
  rintro e W10 ⟨rfl, hb10⟩
  have hb10' := hid (below_up hb10 hb9'.out)
  clear hb10
  go_wp2_with fail
  refine (hf3.out _).mono ?_
  rintro e W11 ⟨rfl, hb11⟩
  have hb11' := hid (below_up hb11 hb10'.out)
  clear hb11
  go_wp2_with fail
  refine (hP3.out _).mono ?_
  rintro e W12 ⟨rfl, hb12⟩
  have hb12' := hid (below_up hb12 hb11'.out)
  clear hb12
  rename_i hK1
  refine hK1 _ _ ?_
  clear hK1
  go_wp2_with (first
    | ((with_reducible refine at_slot (some 17) ?_); refine wpList_run rfl (.pointer (some ⟨W12.heap.size, 0, none⟩)) (W12.alloc (.cells z32 23)) (by kernel_rfl) ?_)
    | ((with_reducible refine at_slot none ?_); refine wpList_store_mid rfl 23 (.tmp 17) (.tmp 114) rfl W12.heap.size 0 z32 rfl rfl (by exact zero_cells.there W12) (by exact zero_cells.size) (by exact zero_cells.one) ?_; generalize hW13 : World.setCells _ _ _ _ = W13
       obtain ⟨-, hb13⟩ := zero_cells.new hW13
       have hb13' := hid (below_up hb13 hb12'.out)
       clear hW13 hb13)
    | (go_at_call 17; refine (errNum_any _ _).mono ?_; rintro e w' ⟨rfl, rfl⟩)
    | fail)
  go_ret
  exact ⟨rfl, hb13'.out⟩

set_option maxRecDepth 100000 in
set_option maxHeartbeats 4000000 in
theorem OtsForms_2 {w : World} (which x : Int) (hK : (IntKind.u64.wrap which).tmod 8 = 2) :
    Calls Try.prog 6 #[.int .i64 which, .int .i64 x] w fun e w' => e = .returned (.bool true) ∧ Below w.heap.size w w' := by
  obtain ⟨n, hn, hand⟩ := mask63 x
  have hf1 := hid (fun W => filled_any ⟨#[105]⟩ 16 (by decide) (by decide) W)
  have hf2 := hid (fun W => filled_any ⟨#[115]⟩ 32 (by decide) (by decide) W)
  have hf3 := hid (fun W => filled_any ⟨#[115]⟩ (33 + n) (by omega) (by decide) W)
  have c3 : ((33 + n : Nat) : Int) = 32 + (1 + (n : Int)) := by omega
  rw [c3] at hf3
  have z1 := fillT_size ⟨#[105]⟩ 16
  have z2 := fillT_size ⟨#[115]⟩ 32
  have z3 := fillT_size ⟨#[115]⟩ (33 + n)
  obtain ⟨I, hI⟩ : ∃ I, fillT ⟨#[105]⟩ 16 = I := ⟨_, rfl⟩
  obtain ⟨S, hS⟩ : ∃ S, fillT ⟨#[115]⟩ 32 = S := ⟨_, rfl⟩
  obtain ⟨S3, hS3⟩ : ∃ S, fillT ⟨#[115]⟩ (33 + n) = S := ⟨_, rfl⟩
  rw [hI] at hf1 z1
  rw [hS] at hf2 z2
  rw [hS3] at hf3 z3
  have hg := good3 7 I S (may_ok I 7 z1 (by decide)) z2
  obtain ⟨a1, a2, a3, -⟩ := sign3 7 I S ⟨#[109]⟩ hg (by decide)
  have hG := hid (fun W => Sign_any 3 7 I S ⟨#[109]⟩ (by decide) W)
  rw [a1] at hG
  obtain ⟨s, hs⟩ : ∃ s, (signAns 3 7 I S ⟨#[109]⟩).1 = s := ⟨_, rfl⟩
  rw [hs] at hG a2 a3
  have hP3 := hid (fun W => Public_any 3 7 I S3 W)
  rw [pub_none 3 7 I S3 (fun h => by have := h.2; omega)] at hP3
  have hsi : (s.size : Int) = 2180 := by omega
  have h3t : s.data.toList.take 4 = [0, 0, 0, 3] := by rw [← cut_list, a3]
  have hQ := hid (fun W => Candidate_any (-(1 + (n : Int))) I ⟨#[109]⟩ s (by decide) (by omega) W)
  rw [cand_may _ I _ s (may_q (.inl (by omega)))] at hQ
  obtain ⟨cs, hce⟩ : ∃ cs, z32.toList = cs := ⟨_, rfl⟩
  have hC' := hid zero_cells
  rw [hce] at hC'
  have hza : cs.toArray = z32 := by rw [← hce]
  have hP := hid (fun W => Public_any 3 (-(1 + (n : Int))) I S W)
  rw [pub_none 3 (-(1 + (n : Int))) I S (fun h => may_q (.inl (by omega)) h.1), ← hza] at hP
  clear hce hza
  have hz1 : (I.size : Int) = 16 := by omega
  clear hI hS hS3 hg a1 hs z2 z3 c3 a2 a3 h3t z1
  go_enter Try.func6, Try.ntmps6
  go_wp2_with fail
  refine (awake4_any _).mono ?_
  rintro e W0 ⟨rfl, hb0⟩
  have hb0' := hid hb0
  clear hb0
  go_wp2_with fail
  refine (hf1.out _).mono ?_
  rintro e W1 ⟨rfl, hb1⟩
  have hb1' := hid (below_up hb1 hb0'.out)
  clear hb1
  go_wp2_with fail
  refine (hf2.out _).mono ?_
  rintro e W2 ⟨rfl, hb2⟩
  have hb2' := hid (below_up hb2 hb1'.out)
  clear hb2
  go_wp2_with fail
  refine (hG.out _).mono ?_
  rintro e W3 ⟨rfl, hb3⟩
  have hb3' := hid (below_up hb3 hb2'.out)
  clear hb3
  go_wp2_with (go_at_call 17; refine (errNum_any _ _).mono ?_; rintro e w' ⟨rfl, rfl⟩)

  go_wp2_with fail
  refine (hQ.out _).mono ?_
  rintro e W6 ⟨rfl, hb6⟩
  have hb6' := hid (below_up hb6 hb3'.out)
  clear hb6
  rename_i hK1
  refine hK1 _ _ ?_
  clear hK1
  go_wp2_with (first
    | ((with_reducible refine at_slot (some 12) ?_); refine wpList_run rfl (.pointer (some ⟨W6.heap.size, 0, none⟩)) (W6.alloc (.cells z32 23)) (by kernel_rfl) ?_)
    | ((with_reducible refine at_slot none ?_); refine wpList_store_mid rfl 23 (.tmp 12) (.tmp 93) rfl W6.heap.size 0 z32 rfl rfl (by exact zero_cells.there W6) (by exact zero_cells.size) (by exact zero_cells.one) ?_; generalize hW7 : World.setCells _ _ _ _ = W7))
  obtain ⟨-, hb7⟩ := zero_cells.new hW7
  have hb7' := hid (below_up hb7 hb6'.out)
  clear hW7 hb7
  refine (hP.out _).mono ?_
  rintro e W8 ⟨rfl, hb8⟩
  have hb8' := hid (below_up hb8 hb7'.out)
  clear hb8
  rename_i hK1
  refine hK1 _ _ ?_
  clear hK1
  go_wp2_with (first
    | ((with_reducible refine at_slot (some 14) ?_); refine wpList_run rfl (.pointer (some ⟨W8.heap.size, 0, none⟩)) (W8.alloc (.cells z32 23)) (by kernel_rfl) ?_)
    | ((with_reducible refine at_slot none ?_); refine wpList_store_mid rfl 23 (.tmp 14) (.tmp 101) rfl W8.heap.size 0 cs.toArray rfl rfl (by exact hC'.out.there W8) (by exact hC'.out.size) (by exact hC'.out.one) ?_; generalize hW9 : World.setCells _ _ _ _ = W9))
  obtain ⟨-, hb9⟩ := hC'.out.new hW9
  have hb9' := hid (below_up hb9 hb8'.out)
  clear hW9 hb9
  refine (hf1.out _).mono ?_
  rintro e W10 ⟨rfl, hb10⟩
  have hb10' := hid (below_up hb10 hb9'.out)
  clear hb10
  go_wp2_with fail
  refine (hf3.out _).mono ?_
  rintro e W11 ⟨rfl, hb11⟩
  have hb11' := hid (below_up hb11 hb10'.out)
  clear hb11
  go_wp2_with fail
  refine (hP3.out _).mono ?_
  rintro e W12 ⟨rfl, hb12⟩
  have hb12' := hid (below_up hb12 hb11'.out)
  clear hb12
  rename_i hK1
  refine hK1 _ _ ?_
  clear hK1
  go_wp2_with (first
    | ((with_reducible refine at_slot (some 17) ?_); refine wpList_run rfl (.pointer (some ⟨W12.heap.size, 0, none⟩)) (W12.alloc (.cells z32 23)) (by kernel_rfl) ?_)
    | ((with_reducible refine at_slot none ?_); refine wpList_store_mid rfl 23 (.tmp 17) (.tmp 114) rfl W12.heap.size 0 z32 rfl rfl (by exact zero_cells.there W12) (by exact zero_cells.size) (by exact zero_cells.one) ?_; generalize hW13 : World.setCells _ _ _ _ = W13
       obtain ⟨-, hb13⟩ := zero_cells.new hW13
       have hb13' := hid (below_up hb13 hb12'.out)
       clear hW13 hb13)
    | (go_at_call 17; refine (errNum_any _ _).mono ?_; rintro e w' ⟨rfl, rfl⟩)
    | fail)
  go_ret
  exact ⟨rfl, hb13'.out⟩

set_option maxRecDepth 100000 in
set_option maxHeartbeats 4000000 in
theorem OtsForms_3 {w : World} (which x : Int) (hK : (IntKind.u64.wrap which).tmod 8 = 3) :
    Calls Try.prog 6 #[.int .i64 which, .int .i64 x] w fun e w' => e = .returned (.bool true) ∧ Below w.heap.size w w' := by
  obtain ⟨n, hn, hand⟩ := mask63 x
  have hf1 := hid (fun W => filled_any ⟨#[105]⟩ 16 (by decide) (by decide) W)
  have hf2 := hid (fun W => filled_any ⟨#[115]⟩ 32 (by decide) (by decide) W)
  have hf3 := hid (fun W => filled_any ⟨#[115]⟩ (33 + n) (by omega) (by decide) W)
  have c3 : ((33 + n : Nat) : Int) = 32 + (1 + (n : Int)) := by omega
  rw [c3] at hf3
  have z1 := fillT_size ⟨#[105]⟩ 16
  have z2 := fillT_size ⟨#[115]⟩ 32
  have z3 := fillT_size ⟨#[115]⟩ (33 + n)
  obtain ⟨I, hI⟩ : ∃ I, fillT ⟨#[105]⟩ 16 = I := ⟨_, rfl⟩
  obtain ⟨S, hS⟩ : ∃ S, fillT ⟨#[115]⟩ 32 = S := ⟨_, rfl⟩
  obtain ⟨S3, hS3⟩ : ∃ S, fillT ⟨#[115]⟩ (33 + n) = S := ⟨_, rfl⟩
  rw [hI] at hf1 z1
  rw [hS] at hf2 z2
  rw [hS3] at hf3 z3
  have hg := good3 7 I S (may_ok I 7 z1 (by decide)) z2
  obtain ⟨a1, a2, a3, -⟩ := sign3 7 I S ⟨#[109]⟩ hg (by decide)
  have hG := hid (fun W => Sign_any 3 7 I S ⟨#[109]⟩ (by decide) W)
  rw [a1] at hG
  obtain ⟨s, hs⟩ : ∃ s, (signAns 3 7 I S ⟨#[109]⟩).1 = s := ⟨_, rfl⟩
  rw [hs] at hG a2 a3
  have hP3 := hid (fun W => Public_any 3 7 I S3 W)
  rw [pub_none 3 7 I S3 (fun h => by have := h.2; omega)] at hP3
  have hsi : (s.size : Int) = 2180 := by omega
  have h3t : s.data.toList.take 4 = [0, 0, 0, 3] := by rw [← cut_list, a3]
  have hQ := hid (fun W => Candidate_any (4294967295 + (1 + (n : Int))) I ⟨#[109]⟩ s (by decide) (by omega) W)
  rw [cand_may _ I _ s (may_q (.inr (by omega)))] at hQ
  obtain ⟨cs, hce⟩ : ∃ cs, z32.toList = cs := ⟨_, rfl⟩
  have hC' := hid zero_cells
  rw [hce] at hC'
  have hza : cs.toArray = z32 := by rw [← hce]
  have hP := hid (fun W => Public_any 3 (4294967295 + (1 + (n : Int))) I S W)
  rw [pub_none 3 (4294967295 + (1 + (n : Int))) I S (fun h => may_q (.inr (by omega)) h.1), ← hza] at hP
  clear hce hza
  have hz1 : (I.size : Int) = 16 := by omega
  clear hI hS hS3 hg a1 hs z2 z3 c3 a2 a3 h3t z1
  go_enter Try.func6, Try.ntmps6
  go_wp2_with fail
  refine (awake4_any _).mono ?_
  rintro e W0 ⟨rfl, hb0⟩
  have hb0' := hid hb0
  clear hb0
  go_wp2_with fail
  refine (hf1.out _).mono ?_
  rintro e W1 ⟨rfl, hb1⟩
  have hb1' := hid (below_up hb1 hb0'.out)
  clear hb1
  go_wp2_with fail
  refine (hf2.out _).mono ?_
  rintro e W2 ⟨rfl, hb2⟩
  have hb2' := hid (below_up hb2 hb1'.out)
  clear hb2
  go_wp2_with fail
  refine (hG.out _).mono ?_
  rintro e W3 ⟨rfl, hb3⟩
  have hb3' := hid (below_up hb3 hb2'.out)
  clear hb3
  go_wp2_with (go_at_call 17; refine (errNum_any _ _).mono ?_; rintro e w' ⟨rfl, rfl⟩)

  go_wp2_with fail
  refine (hQ.out _).mono ?_
  rintro e W6 ⟨rfl, hb6⟩
  have hb6' := hid (below_up hb6 hb3'.out)
  clear hb6
  rename_i hK1
  refine hK1 _ _ ?_
  clear hK1
  go_wp2_with (first
    | ((with_reducible refine at_slot (some 12) ?_); refine wpList_run rfl (.pointer (some ⟨W6.heap.size, 0, none⟩)) (W6.alloc (.cells z32 23)) (by kernel_rfl) ?_)
    | ((with_reducible refine at_slot none ?_); refine wpList_store_mid rfl 23 (.tmp 12) (.tmp 93) rfl W6.heap.size 0 z32 rfl rfl (by exact zero_cells.there W6) (by exact zero_cells.size) (by exact zero_cells.one) ?_; generalize hW7 : World.setCells _ _ _ _ = W7))
  obtain ⟨-, hb7⟩ := zero_cells.new hW7
  have hb7' := hid (below_up hb7 hb6'.out)
  clear hW7 hb7
  refine (hP.out _).mono ?_
  rintro e W8 ⟨rfl, hb8⟩
  have hb8' := hid (below_up hb8 hb7'.out)
  clear hb8
  rename_i hK1
  refine hK1 _ _ ?_
  clear hK1
  go_wp2_with (first
    | ((with_reducible refine at_slot (some 14) ?_); refine wpList_run rfl (.pointer (some ⟨W8.heap.size, 0, none⟩)) (W8.alloc (.cells z32 23)) (by kernel_rfl) ?_)
    | ((with_reducible refine at_slot none ?_); refine wpList_store_mid rfl 23 (.tmp 14) (.tmp 101) rfl W8.heap.size 0 cs.toArray rfl rfl (by exact hC'.out.there W8) (by exact hC'.out.size) (by exact hC'.out.one) ?_; generalize hW9 : World.setCells _ _ _ _ = W9))
  obtain ⟨-, hb9⟩ := hC'.out.new hW9
  have hb9' := hid (below_up hb9 hb8'.out)
  clear hW9 hb9
  refine (hf1.out _).mono ?_
  rintro e W10 ⟨rfl, hb10⟩
  have hb10' := hid (below_up hb10 hb9'.out)
  clear hb10
  go_wp2_with fail
  refine (hf3.out _).mono ?_
  rintro e W11 ⟨rfl, hb11⟩
  have hb11' := hid (below_up hb11 hb10'.out)
  clear hb11
  go_wp2_with fail
  refine (hP3.out _).mono ?_
  rintro e W12 ⟨rfl, hb12⟩
  have hb12' := hid (below_up hb12 hb11'.out)
  clear hb12
  rename_i hK1
  refine hK1 _ _ ?_
  clear hK1
  go_wp2_with (first
    | ((with_reducible refine at_slot (some 17) ?_); refine wpList_run rfl (.pointer (some ⟨W12.heap.size, 0, none⟩)) (W12.alloc (.cells z32 23)) (by kernel_rfl) ?_)
    | ((with_reducible refine at_slot none ?_); refine wpList_store_mid rfl 23 (.tmp 17) (.tmp 114) rfl W12.heap.size 0 z32 rfl rfl (by exact zero_cells.there W12) (by exact zero_cells.size) (by exact zero_cells.one) ?_; generalize hW13 : World.setCells _ _ _ _ = W13
       obtain ⟨-, hb13⟩ := zero_cells.new hW13
       have hb13' := hid (below_up hb13 hb12'.out)
       clear hW13 hb13)
    | (go_at_call 17; refine (errNum_any _ _).mono ?_; rintro e w' ⟨rfl, rfl⟩)
    | fail)
  go_ret
  exact ⟨rfl, hb13'.out⟩

set_option maxRecDepth 100000 in
set_option maxHeartbeats 4000000 in
theorem OtsForms_4 {w : World} (which x : Int) (hK : (IntKind.u64.wrap which).tmod 8 = 4) :
    Calls Try.prog 6 #[.int .i64 which, .int .i64 x] w fun e w' => e = .returned (.bool true) ∧ Below w.heap.size w w' := by
  obtain ⟨n, hn, hand⟩ := mask63 x
  have hf1 := hid (fun W => filled_any ⟨#[105]⟩ 16 (by decide) (by decide) W)
  have hf2 := hid (fun W => filled_any ⟨#[115]⟩ 32 (by decide) (by decide) W)
  have hf3 := hid (fun W => filled_any ⟨#[115]⟩ (33 + n) (by omega) (by decide) W)
  have c3 : ((33 + n : Nat) : Int) = 32 + (1 + (n : Int)) := by omega
  rw [c3] at hf3
  have z1 := fillT_size ⟨#[105]⟩ 16
  have z2 := fillT_size ⟨#[115]⟩ 32
  have z3 := fillT_size ⟨#[115]⟩ (33 + n)
  obtain ⟨I, hI⟩ : ∃ I, fillT ⟨#[105]⟩ 16 = I := ⟨_, rfl⟩
  obtain ⟨S, hS⟩ : ∃ S, fillT ⟨#[115]⟩ 32 = S := ⟨_, rfl⟩
  obtain ⟨S3, hS3⟩ : ∃ S, fillT ⟨#[115]⟩ (33 + n) = S := ⟨_, rfl⟩
  rw [hI] at hf1 z1
  rw [hS] at hf2 z2
  rw [hS3] at hf3 z3
  have hg := good3 7 I S (may_ok I 7 z1 (by decide)) z2
  obtain ⟨a1, a2, a3, -⟩ := sign3 7 I S ⟨#[109]⟩ hg (by decide)
  have hG := hid (fun W => Sign_any 3 7 I S ⟨#[109]⟩ (by decide) W)
  rw [a1] at hG
  obtain ⟨s, hs⟩ : ∃ s, (signAns 3 7 I S ⟨#[109]⟩).1 = s := ⟨_, rfl⟩
  rw [hs] at hG a2 a3
  have hP3 := hid (fun W => Public_any 3 7 I S3 W)
  rw [pub_none 3 7 I S3 (fun h => by have := h.2; omega)] at hP3
  have hsi : (s.size : Int) = 2180 := by omega
  have h3t : s.data.toList.take 4 = [0, 0, 0, 3] := by rw [← cut_list, a3]
  have hdn : (1 + (n : Int)).toNat = 1 + n := by omega
  have zx := ext0 s (1 + n) (by omega)
  obtain ⟨X, hX⟩ : ∃ X, s ++ s.extract 0 (1 + n) = X := ⟨_, rfl⟩
  have zX : X.size = 2180 + (1 + n) := by rw [← hX, ByteArray.size_append, zx, a2]
  have hXt : X.data.toList.take 4 = [0, 0, 0, 3] := by rw [← hX, take_front _ _ _ (by omega), h3t]
  have hcat : s.size + (s.extract 0 (1 + n)).size ≤ 9223372036854775807 := by omega
  have hQ := hid (fun W => Candidate_any 7 I ⟨#[109]⟩ X (by decide) (by omega) W)
  rw [cand_size 7 I _ X _ hXt (fun o ho => by have e : Ots.par (numL [0, 0, 0, 3] : Int) = some ⟨4, 67, 4⟩ := rfl; rw [e] at ho; cases ho; show X.size ≠ 36 + 32 * 67; omega)] at hQ
  obtain ⟨cs, hC, hcs⟩ := pub_cells 3 7 I S
  have hC' := hid hC
  have hr0 : (pubAns 3 7 I S).2 = 0 := by unfold pubAns; rw [hg]
  have hP := hid (fun W => Public_any 3 7 I S W)
  rw [hcs, hr0] at hP
  clear hcs hC hr0
  clear zx zX hXt
  have hz1 : (I.size : Int) = 16 := by omega
  clear hI hS hS3 hg a1 hs z2 z3 c3 a2 a3 h3t z1
  go_enter Try.func6, Try.ntmps6
  go_wp2_with fail
  refine (awake4_any _).mono ?_
  rintro e W0 ⟨rfl, hb0⟩
  have hb0' := hid hb0
  clear hb0
  go_wp2_with fail
  refine (hf1.out _).mono ?_
  rintro e W1 ⟨rfl, hb1⟩
  have hb1' := hid (below_up hb1 hb0'.out)
  clear hb1
  go_wp2_with fail
  refine (hf2.out _).mono ?_
  rintro e W2 ⟨rfl, hb2⟩
  have hb2' := hid (below_up hb2 hb1'.out)
  clear hb2
  go_wp2_with fail
  refine (hG.out _).mono ?_
  rintro e W3 ⟨rfl, hb3⟩
  have hb3' := hid (below_up hb3 hb2'.out)
  clear hb3
  go_wp2_with (go_at_call 17; refine (errNum_any _ _).mono ?_; rintro e w' ⟨rfl, rfl⟩)

  go_wp2_with fail
  refine (hQ.out _).mono ?_
  rintro e W6 ⟨rfl, hb6⟩
  have hb6' := hid (below_up hb6 hb3'.out)
  clear hb6
  rename_i hK1
  refine hK1 _ _ ?_
  clear hK1
  go_wp2_with (first
    | ((with_reducible refine at_slot (some 12) ?_); refine wpList_run rfl (.pointer (some ⟨W6.heap.size, 0, none⟩)) (W6.alloc (.cells z32 23)) (by kernel_rfl) ?_)
    | ((with_reducible refine at_slot none ?_); refine wpList_store_mid rfl 23 (.tmp 12) (.tmp 93) rfl W6.heap.size 0 z32 rfl rfl (by exact zero_cells.there W6) (by exact zero_cells.size) (by exact zero_cells.one) ?_; generalize hW7 : World.setCells _ _ _ _ = W7))
  obtain ⟨-, hb7⟩ := zero_cells.new hW7
  have hb7' := hid (below_up hb7 hb6'.out)
  clear hW7 hb7
  refine (hP.out _).mono ?_
  rintro e W8 ⟨rfl, hb8⟩
  have hb8' := hid (below_up hb8 hb7'.out)
  clear hb8
  rename_i hK1
  refine hK1 _ _ ?_
  clear hK1
  go_wp2_with (first
    | ((with_reducible refine at_slot (some 14) ?_); refine wpList_run rfl (.pointer (some ⟨W8.heap.size, 0, none⟩)) (W8.alloc (.cells z32 23)) (by kernel_rfl) ?_)
    | ((with_reducible refine at_slot none ?_); refine wpList_store_mid rfl 23 (.tmp 14) (.tmp 101) rfl W8.heap.size 0 cs.toArray rfl rfl (by exact hC'.out.there W8) (by exact hC'.out.size) (by exact hC'.out.one) ?_; generalize hW9 : World.setCells _ _ _ _ = W9))
  obtain ⟨-, hb9⟩ := hC'.out.new hW9
  have hb9' := hid (below_up hb9 hb8'.out)
  clear hW9 hb9
  refine (hf1.out _).mono ?_
  rintro e W10 ⟨rfl, hb10⟩
  have hb10' := hid (below_up hb10 hb9'.out)
  clear hb10
  go_wp2_with fail
  refine (hf3.out _).mono ?_
  rintro e W11 ⟨rfl, hb11⟩
  have hb11' := hid (below_up hb11 hb10'.out)
  clear hb11
  go_wp2_with fail
  refine (hP3.out _).mono ?_
  rintro e W12 ⟨rfl, hb12⟩
  have hb12' := hid (below_up hb12 hb11'.out)
  clear hb12
  rename_i hK1
  refine hK1 _ _ ?_
  clear hK1
  go_wp2_with (first
    | ((with_reducible refine at_slot (some 17) ?_); refine wpList_run rfl (.pointer (some ⟨W12.heap.size, 0, none⟩)) (W12.alloc (.cells z32 23)) (by kernel_rfl) ?_)
    | ((with_reducible refine at_slot none ?_); refine wpList_store_mid rfl 23 (.tmp 17) (.tmp 114) rfl W12.heap.size 0 z32 rfl rfl (by exact zero_cells.there W12) (by exact zero_cells.size) (by exact zero_cells.one) ?_; generalize hW13 : World.setCells _ _ _ _ = W13
       obtain ⟨-, hb13⟩ := zero_cells.new hW13
       have hb13' := hid (below_up hb13 hb12'.out)
       clear hW13 hb13)
    | (go_at_call 17; refine (errNum_any _ _).mono ?_; rintro e w' ⟨rfl, rfl⟩)
    | fail)
  go_ret
  exact ⟨rfl, hb13'.out⟩

set_option maxRecDepth 100000 in
set_option maxHeartbeats 4000000 in
theorem OtsForms_5 {w : World} (which x : Int) (hK : (IntKind.u64.wrap which).tmod 8 = 5) :
    Calls Try.prog 6 #[.int .i64 which, .int .i64 x] w fun e w' => e = .returned (.bool true) ∧ Below w.heap.size w w' := by
  obtain ⟨n, hn, hand⟩ := mask63 x
  have hf1 := hid (fun W => filled_any ⟨#[105]⟩ 16 (by decide) (by decide) W)
  have hf2 := hid (fun W => filled_any ⟨#[115]⟩ 32 (by decide) (by decide) W)
  have hf3 := hid (fun W => filled_any ⟨#[115]⟩ (33 + n) (by omega) (by decide) W)
  have c3 : ((33 + n : Nat) : Int) = 32 + (1 + (n : Int)) := by omega
  rw [c3] at hf3
  have z1 := fillT_size ⟨#[105]⟩ 16
  have z2 := fillT_size ⟨#[115]⟩ 32
  have z3 := fillT_size ⟨#[115]⟩ (33 + n)
  obtain ⟨I, hI⟩ : ∃ I, fillT ⟨#[105]⟩ 16 = I := ⟨_, rfl⟩
  obtain ⟨S, hS⟩ : ∃ S, fillT ⟨#[115]⟩ 32 = S := ⟨_, rfl⟩
  obtain ⟨S3, hS3⟩ : ∃ S, fillT ⟨#[115]⟩ (33 + n) = S := ⟨_, rfl⟩
  rw [hI] at hf1 z1
  rw [hS] at hf2 z2
  rw [hS3] at hf3 z3
  have hg := good3 7 I S (may_ok I 7 z1 (by decide)) z2
  obtain ⟨a1, a2, a3, -⟩ := sign3 7 I S ⟨#[109]⟩ hg (by decide)
  have hG := hid (fun W => Sign_any 3 7 I S ⟨#[109]⟩ (by decide) W)
  rw [a1] at hG
  obtain ⟨s, hs⟩ : ∃ s, (signAns 3 7 I S ⟨#[109]⟩).1 = s := ⟨_, rfl⟩
  rw [hs] at hG a2 a3
  have hP3 := hid (fun W => Public_any 3 7 I S3 W)
  rw [pub_none 3 7 I S3 (fun h => by have := h.2; omega)] at hP3
  have hsi : (s.size : Int) = 2180 := by omega
  have h3t : s.data.toList.take 4 = [0, 0, 0, 3] := by rw [← cut_list, a3]
  obtain ⟨mm, hmm, hm1, hm2⟩ : ∃ mm : Nat, 2180 - (1 + (n : Int)) = (mm : Int) ∧ mm < 2180 ∧ 2000 ≤ mm := ⟨2180 - (1 + n), by omega, by omega, by omega⟩
  obtain ⟨X, hX⟩ : ∃ X, s.extract 0 mm = X := ⟨_, rfl⟩
  have zX := ext0 s mm (by omega)
  rw [hX] at zX
  have hXt : X.data.toList.take 4 = [0, 0, 0, 3] := by
    rw [← hX, cut_list, List.take_take]
    have e : min 4 mm = 4 := by omega
    rw [e, h3t]
  have hQ := hid (fun W => Candidate_any 7 I ⟨#[109]⟩ X (by decide) (by omega) W)
  rw [cand_size 7 I _ X _ hXt (fun o ho => by have e : Ots.par (numL [0, 0, 0, 3] : Int) = some ⟨4, 67, 4⟩ := rfl; rw [e] at ho; cases ho; show X.size ≠ 36 + 32 * 67; omega)] at hQ
  obtain ⟨cs, hC, hcs⟩ := pub_cells 3 7 I S
  have hC' := hid hC
  have hr0 : (pubAns 3 7 I S).2 = 0 := by unfold pubAns; rw [hg]
  have hP := hid (fun W => Public_any 3 7 I S W)
  rw [hcs, hr0] at hP
  clear hcs hC hr0
  clear zX hXt
  have hz1 : (I.size : Int) = 16 := by omega
  clear hI hS hS3 hg a1 hs z2 z3 c3 a2 a3 h3t z1
  go_enter Try.func6, Try.ntmps6
  go_wp2_with fail
  refine (awake4_any _).mono ?_
  rintro e W0 ⟨rfl, hb0⟩
  have hb0' := hid hb0
  clear hb0
  go_wp2_with fail
  refine (hf1.out _).mono ?_
  rintro e W1 ⟨rfl, hb1⟩
  have hb1' := hid (below_up hb1 hb0'.out)
  clear hb1
  go_wp2_with fail
  refine (hf2.out _).mono ?_
  rintro e W2 ⟨rfl, hb2⟩
  have hb2' := hid (below_up hb2 hb1'.out)
  clear hb2
  go_wp2_with fail
  refine (hG.out _).mono ?_
  rintro e W3 ⟨rfl, hb3⟩
  have hb3' := hid (below_up hb3 hb2'.out)
  clear hb3
  go_wp2_with (go_at_call 17; refine (errNum_any _ _).mono ?_; rintro e w' ⟨rfl, rfl⟩)

  go_wp2_with fail
  refine (hQ.out _).mono ?_
  rintro e W6 ⟨rfl, hb6⟩
  have hb6' := hid (below_up hb6 hb3'.out)
  clear hb6
  rename_i hK1
  refine hK1 _ _ ?_
  clear hK1
  go_wp2_with (first
    | ((with_reducible refine at_slot (some 12) ?_); refine wpList_run rfl (.pointer (some ⟨W6.heap.size, 0, none⟩)) (W6.alloc (.cells z32 23)) (by kernel_rfl) ?_)
    | ((with_reducible refine at_slot none ?_); refine wpList_store_mid rfl 23 (.tmp 12) (.tmp 93) rfl W6.heap.size 0 z32 rfl rfl (by exact zero_cells.there W6) (by exact zero_cells.size) (by exact zero_cells.one) ?_; generalize hW7 : World.setCells _ _ _ _ = W7))
  obtain ⟨-, hb7⟩ := zero_cells.new hW7
  have hb7' := hid (below_up hb7 hb6'.out)
  clear hW7 hb7
  refine (hP.out _).mono ?_
  rintro e W8 ⟨rfl, hb8⟩
  have hb8' := hid (below_up hb8 hb7'.out)
  clear hb8
  rename_i hK1
  refine hK1 _ _ ?_
  clear hK1
  go_wp2_with (first
    | ((with_reducible refine at_slot (some 14) ?_); refine wpList_run rfl (.pointer (some ⟨W8.heap.size, 0, none⟩)) (W8.alloc (.cells z32 23)) (by kernel_rfl) ?_)
    | ((with_reducible refine at_slot none ?_); refine wpList_store_mid rfl 23 (.tmp 14) (.tmp 101) rfl W8.heap.size 0 cs.toArray rfl rfl (by exact hC'.out.there W8) (by exact hC'.out.size) (by exact hC'.out.one) ?_; generalize hW9 : World.setCells _ _ _ _ = W9))
  obtain ⟨-, hb9⟩ := hC'.out.new hW9
  have hb9' := hid (below_up hb9 hb8'.out)
  clear hW9 hb9
  refine (hf1.out _).mono ?_
  rintro e W10 ⟨rfl, hb10⟩
  have hb10' := hid (below_up hb10 hb9'.out)
  clear hb10
  go_wp2_with fail
  refine (hf3.out _).mono ?_
  rintro e W11 ⟨rfl, hb11⟩
  have hb11' := hid (below_up hb11 hb10'.out)
  clear hb11
  go_wp2_with fail
  refine (hP3.out _).mono ?_
  rintro e W12 ⟨rfl, hb12⟩
  have hb12' := hid (below_up hb12 hb11'.out)
  clear hb12
  rename_i hK1
  refine hK1 _ _ ?_
  clear hK1
  go_wp2_with (first
    | ((with_reducible refine at_slot (some 17) ?_); refine wpList_run rfl (.pointer (some ⟨W12.heap.size, 0, none⟩)) (W12.alloc (.cells z32 23)) (by kernel_rfl) ?_)
    | ((with_reducible refine at_slot none ?_); refine wpList_store_mid rfl 23 (.tmp 17) (.tmp 114) rfl W12.heap.size 0 z32 rfl rfl (by exact zero_cells.there W12) (by exact zero_cells.size) (by exact zero_cells.one) ?_; generalize hW13 : World.setCells _ _ _ _ = W13
       obtain ⟨-, hb13⟩ := zero_cells.new hW13
       have hb13' := hid (below_up hb13 hb12'.out)
       clear hW13 hb13)
    | (go_at_call 17; refine (errNum_any _ _).mono ?_; rintro e w' ⟨rfl, rfl⟩)
    | fail)
  go_ret
  exact ⟨rfl, hb13'.out⟩

set_option maxRecDepth 100000 in
set_option maxHeartbeats 4000000 in
theorem OtsForms_6 {w : World} (which x : Int) (hK : (IntKind.u64.wrap which).tmod 8 = 6) :
    Calls Try.prog 6 #[.int .i64 which, .int .i64 x] w fun e w' => e = .returned (.bool true) ∧ Below w.heap.size w w' := by
  obtain ⟨n, hn, hand⟩ := mask63 x
  have hf1 := hid (fun W => filled_any ⟨#[105]⟩ 16 (by decide) (by decide) W)
  have hf2 := hid (fun W => filled_any ⟨#[115]⟩ 32 (by decide) (by decide) W)
  have hf3 := hid (fun W => filled_any ⟨#[115]⟩ (33 + n) (by omega) (by decide) W)
  have c3 : ((33 + n : Nat) : Int) = 32 + (1 + (n : Int)) := by omega
  rw [c3] at hf3
  have z1 := fillT_size ⟨#[105]⟩ 16
  have z2 := fillT_size ⟨#[115]⟩ 32
  have z3 := fillT_size ⟨#[115]⟩ (33 + n)
  obtain ⟨I, hI⟩ : ∃ I, fillT ⟨#[105]⟩ 16 = I := ⟨_, rfl⟩
  obtain ⟨S, hS⟩ : ∃ S, fillT ⟨#[115]⟩ 32 = S := ⟨_, rfl⟩
  obtain ⟨S3, hS3⟩ : ∃ S, fillT ⟨#[115]⟩ (33 + n) = S := ⟨_, rfl⟩
  rw [hI] at hf1 z1
  rw [hS] at hf2 z2
  rw [hS3] at hf3 z3
  have hg := good3 7 I S (may_ok I 7 z1 (by decide)) z2
  obtain ⟨a1, a2, a3, -⟩ := sign3 7 I S ⟨#[109]⟩ hg (by decide)
  have hG := hid (fun W => Sign_any 3 7 I S ⟨#[109]⟩ (by decide) W)
  rw [a1] at hG
  obtain ⟨s, hs⟩ : ∃ s, (signAns 3 7 I S ⟨#[109]⟩).1 = s := ⟨_, rfl⟩
  rw [hs] at hG a2 a3
  have hP3 := hid (fun W => Public_any 3 7 I S3 W)
  rw [pub_none 3 7 I S3 (fun h => by have := h.2; omega)] at hP3
  have hsi : (s.size : Int) = 2180 := by omega
  have h3t : s.data.toList.take 4 = [0, 0, 0, 3] := by rw [← cut_list, a3]
  have zx : (s.extract 4 s.size).size = 2176 := by rw [ByteArray.size_extract]; omega
  have h4z : (⟨#[0, 0, 0, 4]⟩ : ByteArray).size = 4 := rfl
  obtain ⟨X, hX⟩ : ∃ X, (⟨#[0, 0, 0, 4]⟩ : ByteArray) ++ s.extract 4 s.size = X := ⟨_, rfl⟩
  have zX : X.size = 2180 := by rw [← hX, ByteArray.size_append, zx, h4z]
  have hXt : X.data.toList.take 4 = [0, 0, 0, 4] := by rw [← hX, take_front _ _ _ (by omega)]; rfl
  have hcat : (⟨#[0, 0, 0, 4]⟩ : ByteArray).size + (s.extract 4 s.size).size ≤ 9223372036854775807 := by omega
  have hQ := hid (fun W => Candidate_any 7 I ⟨#[109]⟩ X (by decide) (by omega) W)
  rw [cand_size 7 I _ X _ hXt (fun o ho => by have e : Ots.par (numL [0, 0, 0, 4] : Int) = some ⟨8, 34, 0⟩ := rfl; rw [e] at ho; cases ho; show X.size ≠ 36 + 32 * 34; omega)] at hQ
  obtain ⟨cs, hC, hcs⟩ := pub_cells 3 7 I S
  have hC' := hid hC
  have hr0 : (pubAns 3 7 I S).2 = 0 := by unfold pubAns; rw [hg]
  have hP := hid (fun W => Public_any 3 7 I S W)
  rw [hcs, hr0] at hP
  clear hcs hC hr0
  clear zx zX hXt h4z
  have hz1 : (I.size : Int) = 16 := by omega
  clear hI hS hS3 hg a1 hs z2 z3 c3 a2 a3 h3t z1
  go_enter Try.func6, Try.ntmps6
  go_wp2_with fail
  refine (awake4_any _).mono ?_
  rintro e W0 ⟨rfl, hb0⟩
  have hb0' := hid hb0
  clear hb0
  go_wp2_with fail
  refine (hf1.out _).mono ?_
  rintro e W1 ⟨rfl, hb1⟩
  have hb1' := hid (below_up hb1 hb0'.out)
  clear hb1
  go_wp2_with fail
  refine (hf2.out _).mono ?_
  rintro e W2 ⟨rfl, hb2⟩
  have hb2' := hid (below_up hb2 hb1'.out)
  clear hb2
  go_wp2_with fail
  refine (hG.out _).mono ?_
  rintro e W3 ⟨rfl, hb3⟩
  have hb3' := hid (below_up hb3 hb2'.out)
  clear hb3
  go_wp2_with (go_at_call 17; refine (errNum_any _ _).mono ?_; rintro e w' ⟨rfl, rfl⟩)

  go_wp2_with fail
  refine (hQ.out _).mono ?_
  rintro e W6 ⟨rfl, hb6⟩
  have hb6' := hid (below_up hb6 hb3'.out)
  clear hb6
  rename_i hK1
  refine hK1 _ _ ?_
  clear hK1
  go_wp2_with (first
    | ((with_reducible refine at_slot (some 12) ?_); refine wpList_run rfl (.pointer (some ⟨W6.heap.size, 0, none⟩)) (W6.alloc (.cells z32 23)) (by kernel_rfl) ?_)
    | ((with_reducible refine at_slot none ?_); refine wpList_store_mid rfl 23 (.tmp 12) (.tmp 93) rfl W6.heap.size 0 z32 rfl rfl (by exact zero_cells.there W6) (by exact zero_cells.size) (by exact zero_cells.one) ?_; generalize hW7 : World.setCells _ _ _ _ = W7))
  obtain ⟨-, hb7⟩ := zero_cells.new hW7
  have hb7' := hid (below_up hb7 hb6'.out)
  clear hW7 hb7
  refine (hP.out _).mono ?_
  rintro e W8 ⟨rfl, hb8⟩
  have hb8' := hid (below_up hb8 hb7'.out)
  clear hb8
  rename_i hK1
  refine hK1 _ _ ?_
  clear hK1
  go_wp2_with (first
    | ((with_reducible refine at_slot (some 14) ?_); refine wpList_run rfl (.pointer (some ⟨W8.heap.size, 0, none⟩)) (W8.alloc (.cells z32 23)) (by kernel_rfl) ?_)
    | ((with_reducible refine at_slot none ?_); refine wpList_store_mid rfl 23 (.tmp 14) (.tmp 101) rfl W8.heap.size 0 cs.toArray rfl rfl (by exact hC'.out.there W8) (by exact hC'.out.size) (by exact hC'.out.one) ?_; generalize hW9 : World.setCells _ _ _ _ = W9))
  obtain ⟨-, hb9⟩ := hC'.out.new hW9
  have hb9' := hid (below_up hb9 hb8'.out)
  clear hW9 hb9
  refine (hf1.out _).mono ?_
  rintro e W10 ⟨rfl, hb10⟩
  have hb10' := hid (below_up hb10 hb9'.out)
  clear hb10
  go_wp2_with fail
  refine (hf3.out _).mono ?_
  rintro e W11 ⟨rfl, hb11⟩
  have hb11' := hid (below_up hb11 hb10'.out)
  clear hb11
  go_wp2_with fail
  refine (hP3.out _).mono ?_
  rintro e W12 ⟨rfl, hb12⟩
  have hb12' := hid (below_up hb12 hb11'.out)
  clear hb12
  rename_i hK1
  refine hK1 _ _ ?_
  clear hK1
  go_wp2_with (first
    | ((with_reducible refine at_slot (some 17) ?_); refine wpList_run rfl (.pointer (some ⟨W12.heap.size, 0, none⟩)) (W12.alloc (.cells z32 23)) (by kernel_rfl) ?_)
    | ((with_reducible refine at_slot none ?_); refine wpList_store_mid rfl 23 (.tmp 17) (.tmp 114) rfl W12.heap.size 0 z32 rfl rfl (by exact zero_cells.there W12) (by exact zero_cells.size) (by exact zero_cells.one) ?_; generalize hW13 : World.setCells _ _ _ _ = W13
       obtain ⟨-, hb13⟩ := zero_cells.new hW13
       have hb13' := hid (below_up hb13 hb12'.out)
       clear hW13 hb13)
    | (go_at_call 17; refine (errNum_any _ _).mono ?_; rintro e w' ⟨rfl, rfl⟩)
    | fail)
  go_ret
  exact ⟨rfl, hb13'.out⟩

set_option maxRecDepth 100000 in
set_option maxHeartbeats 4000000 in
theorem OtsForms_7 {w : World} (which x : Int) (hK : (IntKind.u64.wrap which).tmod 8 = 7) :
    Calls Try.prog 6 #[.int .i64 which, .int .i64 x] w fun e w' => e = .returned (.bool true) ∧ Below w.heap.size w w' := by
  obtain ⟨n, hn, hand⟩ := mask63 x
  have hf1 := hid (fun W => filled_any ⟨#[105]⟩ 16 (by decide) (by decide) W)
  have hf2 := hid (fun W => filled_any ⟨#[115]⟩ 32 (by decide) (by decide) W)
  have hf3 := hid (fun W => filled_any ⟨#[115]⟩ (33 + n) (by omega) (by decide) W)
  have c3 : ((33 + n : Nat) : Int) = 32 + (1 + (n : Int)) := by omega
  rw [c3] at hf3
  have z1 := fillT_size ⟨#[105]⟩ 16
  have z2 := fillT_size ⟨#[115]⟩ 32
  have z3 := fillT_size ⟨#[115]⟩ (33 + n)
  obtain ⟨I, hI⟩ : ∃ I, fillT ⟨#[105]⟩ 16 = I := ⟨_, rfl⟩
  obtain ⟨S, hS⟩ : ∃ S, fillT ⟨#[115]⟩ 32 = S := ⟨_, rfl⟩
  obtain ⟨S3, hS3⟩ : ∃ S, fillT ⟨#[115]⟩ (33 + n) = S := ⟨_, rfl⟩
  rw [hI] at hf1 z1
  rw [hS] at hf2 z2
  rw [hS3] at hf3 z3
  have hg := good3 7 I S (may_ok I 7 z1 (by decide)) z2
  obtain ⟨a1, a2, a3, -⟩ := sign3 7 I S ⟨#[109]⟩ hg (by decide)
  have hG := hid (fun W => Sign_any 3 7 I S ⟨#[109]⟩ (by decide) W)
  rw [a1] at hG
  obtain ⟨s, hs⟩ : ∃ s, (signAns 3 7 I S ⟨#[109]⟩).1 = s := ⟨_, rfl⟩
  rw [hs] at hG a2 a3
  have hP3 := hid (fun W => Public_any 3 7 I S3 W)
  rw [pub_none 3 7 I S3 (fun h => by have := h.2; omega)] at hP3
  have hsi : (s.size : Int) = 2180 := by omega
  have h3t : s.data.toList.take 4 = [0, 0, 0, 3] := by rw [← cut_list, a3]
  have zx : (s.extract 4 s.size).size = 2176 := by rw [ByteArray.size_extract]; omega
  have h4z : (⟨#[0, 0, 1, 3]⟩ : ByteArray).size = 4 := rfl
  obtain ⟨X, hX⟩ : ∃ X, (⟨#[0, 0, 1, 3]⟩ : ByteArray) ++ s.extract 4 s.size = X := ⟨_, rfl⟩
  have zX : X.size = 2180 := by rw [← hX, ByteArray.size_append, zx, h4z]
  have hXt : X.data.toList.take 4 = [0, 0, 1, 3] := by rw [← hX, take_front _ _ _ (by omega)]; rfl
  have hcat : (⟨#[0, 0, 1, 3]⟩ : ByteArray).size + (s.extract 4 s.size).size ≤ 9223372036854775807 := by omega
  have hQ := hid (fun W => Candidate_any 7 I ⟨#[109]⟩ X (by decide) (by omega) W)
  rw [cand_size 7 I _ X _ hXt (fun o ho => by have e : Ots.par (numL [0, 0, 1, 3] : Int) = none := rfl; rw [e] at ho; cases ho)] at hQ
  obtain ⟨cs, hC, hcs⟩ := pub_cells 3 7 I S
  have hC' := hid hC
  have hr0 : (pubAns 3 7 I S).2 = 0 := by unfold pubAns; rw [hg]
  have hP := hid (fun W => Public_any 3 7 I S W)
  rw [hcs, hr0] at hP
  clear hcs hC hr0
  clear zx zX hXt h4z
  have hz1 : (I.size : Int) = 16 := by omega
  clear hI hS hS3 hg a1 hs z2 z3 c3 a2 a3 h3t z1
  go_enter Try.func6, Try.ntmps6
  go_wp2_with fail
  refine (awake4_any _).mono ?_
  rintro e W0 ⟨rfl, hb0⟩
  have hb0' := hid hb0
  clear hb0
  go_wp2_with fail
  refine (hf1.out _).mono ?_
  rintro e W1 ⟨rfl, hb1⟩
  have hb1' := hid (below_up hb1 hb0'.out)
  clear hb1
  go_wp2_with fail
  refine (hf2.out _).mono ?_
  rintro e W2 ⟨rfl, hb2⟩
  have hb2' := hid (below_up hb2 hb1'.out)
  clear hb2
  go_wp2_with fail
  refine (hG.out _).mono ?_
  rintro e W3 ⟨rfl, hb3⟩
  have hb3' := hid (below_up hb3 hb2'.out)
  clear hb3
  go_wp2_with (go_at_call 17; refine (errNum_any _ _).mono ?_; rintro e w' ⟨rfl, rfl⟩)

  go_wp2_with fail
  refine (hQ.out _).mono ?_
  rintro e W6 ⟨rfl, hb6⟩
  have hb6' := hid (below_up hb6 hb3'.out)
  clear hb6
  rename_i hK1
  refine hK1 _ _ ?_
  clear hK1
  go_wp2_with (first
    | ((with_reducible refine at_slot (some 12) ?_); refine wpList_run rfl (.pointer (some ⟨W6.heap.size, 0, none⟩)) (W6.alloc (.cells z32 23)) (by kernel_rfl) ?_)
    | ((with_reducible refine at_slot none ?_); refine wpList_store_mid rfl 23 (.tmp 12) (.tmp 93) rfl W6.heap.size 0 z32 rfl rfl (by exact zero_cells.there W6) (by exact zero_cells.size) (by exact zero_cells.one) ?_; generalize hW7 : World.setCells _ _ _ _ = W7))
  obtain ⟨-, hb7⟩ := zero_cells.new hW7
  have hb7' := hid (below_up hb7 hb6'.out)
  clear hW7 hb7
  refine (hP.out _).mono ?_
  rintro e W8 ⟨rfl, hb8⟩
  have hb8' := hid (below_up hb8 hb7'.out)
  clear hb8
  rename_i hK1
  refine hK1 _ _ ?_
  clear hK1
  go_wp2_with (first
    | ((with_reducible refine at_slot (some 14) ?_); refine wpList_run rfl (.pointer (some ⟨W8.heap.size, 0, none⟩)) (W8.alloc (.cells z32 23)) (by kernel_rfl) ?_)
    | ((with_reducible refine at_slot none ?_); refine wpList_store_mid rfl 23 (.tmp 14) (.tmp 101) rfl W8.heap.size 0 cs.toArray rfl rfl (by exact hC'.out.there W8) (by exact hC'.out.size) (by exact hC'.out.one) ?_; generalize hW9 : World.setCells _ _ _ _ = W9))
  obtain ⟨-, hb9⟩ := hC'.out.new hW9
  have hb9' := hid (below_up hb9 hb8'.out)
  clear hW9 hb9
  refine (hf1.out _).mono ?_
  rintro e W10 ⟨rfl, hb10⟩
  have hb10' := hid (below_up hb10 hb9'.out)
  clear hb10
  go_wp2_with fail
  refine (hf3.out _).mono ?_
  rintro e W11 ⟨rfl, hb11⟩
  have hb11' := hid (below_up hb11 hb10'.out)
  clear hb11
  go_wp2_with fail
  refine (hP3.out _).mono ?_
  rintro e W12 ⟨rfl, hb12⟩
  have hb12' := hid (below_up hb12 hb11'.out)
  clear hb12
  rename_i hK1
  refine hK1 _ _ ?_
  clear hK1
  go_wp2_with (first
    | ((with_reducible refine at_slot (some 17) ?_); refine wpList_run rfl (.pointer (some ⟨W12.heap.size, 0, none⟩)) (W12.alloc (.cells z32 23)) (by kernel_rfl) ?_)
    | ((with_reducible refine at_slot none ?_); refine wpList_store_mid rfl 23 (.tmp 17) (.tmp 114) rfl W12.heap.size 0 z32 rfl rfl (by exact zero_cells.there W12) (by exact zero_cells.size) (by exact zero_cells.one) ?_; generalize hW13 : World.setCells _ _ _ _ = W13
       obtain ⟨-, hb13⟩ := zero_cells.new hW13
       have hb13' := hid (below_up hb13 hb12'.out)
       clear hW13 hb13)
    | (go_at_call 17; refine (errNum_any _ _).mono ?_; rintro e w' ⟨rfl, rfl⟩)
    | fail)
  go_ret
  exact ⟨rfl, hb13'.out⟩

theorem OtsForms_law {w : World} (which : Int) (_ : (Lit.int .i64 which).wf = true) (x : Int) (_ : (Lit.int .i64 x).wf = true) :
    Calls Try.prog 6 #[.int .i64 which, .int .i64 x] w fun e w' => e = .returned (.bool true) ∧ Below w.heap.size w w' := by
  obtain ⟨K, hk1, hkl⟩ : ∃ K : Nat, (IntKind.u64.wrap which).tmod 8 = (K : Int) ∧ K ≤ 7 := by
    have e : IntKind.u64.wrap which = which % 18446744073709551616 := rfl
    rw [e, Int.tmod_eq_emod_of_nonneg (by omega)]
    exact ⟨(which % 18446744073709551616 % 8).toNat, by omega, by omega⟩
  have hc : K = 0 ∨ K = 1 ∨ K = 2 ∨ K = 3 ∨ K = 4 ∨ K = 5 ∨ K = 6 ∨ K = 7 := by omega
  rcases hc with rfl | rfl | rfl | rfl | rfl | rfl | rfl | rfl
  · exact OtsForms_0 which x hk1
  · exact OtsForms_1 which x hk1
  · exact OtsForms_2 which x hk1
  · exact OtsForms_3 which x hk1
  · exact OtsForms_4 which x hk1
  · exact OtsForms_5 which x hk1
  · exact OtsForms_6 which x hk1
  · exact OtsForms_7 which x hk1

end Go.Proofs.Ythefnghcdbmpnaa
