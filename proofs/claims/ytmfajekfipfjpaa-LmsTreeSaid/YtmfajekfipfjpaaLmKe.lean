/- Layer 5: the statements' own keys.
   Layer 5: what the statements' own keys answer; what every program answers that is one. -/
import Derived.Test.YtmfajekfipfjpaaLmVe
import Derived.Test.YtmfajekfipfjpaaFil5
import Derived.Test.YtmfajekfipfjpaaNum0
namespace Go.Proofs.Ytmfajekfipfjpaa
open Go.RowKit
open Go.Lib (strCells strCells_length strCells_oneCell)
attribute [local irreducible] Sha.compress Sha.blocks Sha.sha Sha.pad

/-- A statement's height. -/
def kh (x : Int) : Nat := 1 + (x % 2).toNat
theorem kh_two (x : Int) : kh x = 1 ∨ kh x = 2 := by unfold kh; omega
/-- A statement's name of a tree, its seed. -/
def kId (s : ByteArray) : ByteArray := fillT (⟨#[105]⟩ ++ s) 16
def kSeed (s : ByteArray) : ByteArray := fillT s 32

set_option maxRecDepth 100000 in
set_option maxHeartbeats 1000000 in
theorem Key_any (s : ByteArray) (x : Int) (hs : s.size ≤ 140737488351232) (w : World) : Calls Try.prog 20 #[.string s, .int .i64 x, .int .i64 0] w fun e w' => e = .returned (.agg (keyC 3 (kh x : Int) (kId s) (kSeed s) 0).toArray) ∧ Below w.heap.size w w' := by
  obtain ⟨W0, hW0⟩ : ∃ W0, w.alloc (.cells (keyC 0 0 ⟨#[]⟩ ⟨#[]⟩ 0).toArray 23) = W0 := ⟨_, rfl⟩
  have hZ0 := hid (show Holds W0 w.heap.size 23 zk from by rw [← hW0]; exact Holds.new _ _ zk.toArray)
  have hB0 := hid (show Below w.heap.size w W0 from by rw [← hW0]; exact (Below.refl _ _).alloc (Nat.le_refl _) _)
  have hW0' := hid hW0
  have zi : (⟨#[105]⟩ ++ s : ByteArray).size ≤ 140737488355000 := by rw [ByteArray.size_append]; have : (⟨#[105]⟩ : ByteArray).size = 1 := rfl; omega
  have hfi := hid (fun W => filled5_any (⟨#[105]⟩ ++ s) 16 (by decide) zi W)
  have hfs := hid (fun W => filled5_any s 32 (by decide) (by omega) W)
  have hsz := hid (show (Try.prog.info? 23).map (·.size) = some 5 from sizeKey)
  obtain ⟨ki, hki⟩ : ∃ t, fillT (⟨#[105]⟩ ++ s) 16 = t := ⟨_, rfl⟩
  obtain ⟨ks, hks⟩ : ∃ t, fillT s 32 = t := ⟨_, rfl⟩
  unfold kId kSeed
  rw [hki] at hfi ⊢
  rw [hks] at hfs ⊢
  have l1 : 1 + s.size ≤ 9223372036854775807 := by omega
  clear hki hks zi hW0
  obtain ⟨hh, hhe⟩ : ∃ h, kh x = h := ⟨_, rfl⟩
  have hhx := kh_two x
  rw [hhe] at hhx ⊢
  have e2 : 1 + (x % 2) = (hh : Int) := by rw [← hhe]; unfold kh; omega
  have e3 : (IntKind.u64.wrap x).tmod 2 = x % 2 := by
    have e : IntKind.u64.wrap x = x % 18446744073709551616 := rfl
    rw [e, Int.tmod_eq_emod_of_nonneg (by omega)]
    omega
  have e4 := IntWalk.i64_in (x % 2) (by omega)
  have e5 := IntWalk.i64_in (hh : Int) (by omega)
  clear hhe
  go_enter Try.func20, Try.ntmps20
  go_wp2_with (first
    | ((with_reducible refine at_slot (some 6) ?_); refine wpList_run rfl (.pointer (some ⟨w.heap.size, 0, none⟩)) (w.alloc (.cells (keyC 0 0 ⟨#[]⟩ ⟨#[]⟩ 0).toArray 23)) (by kernel_rfl) ?_; rw [hW0'.out])
    | fail)
  have hb : Below W0.heap.size W0 W0.drew := (Below.refl _ _).drew
  have hZ1 := hid (hZ0.out.below hb hZ0.out.lt)
  have hB1 := hid (below_up hb hB0.out)
  clear hb hZ0 hB0 e2 e3 e4 hs
  have v0 : IntKind.u64.wrap 0 = 0 := by decide
  have v2 : IntKind.u64.wrap 2 = 2 := by decide
  have v3 : IntKind.u64.wrap 3 = 3 := by decide
  have v4 : IntKind.u64.wrap 4 = 4 := by decide
  have v5 : IntKind.u64.wrap 5 = 5 := by decide
  have v6 : IntKind.i64.wrap 0 = 0 := by decide
  rcases hhx with rfl | rfl
  · skip
    refine wp_region_held_drew (S := fun _ => True) (by kernel_rfl) (by exact trivial) (fun hHeld => ?_)
    generalize W0.drew = W1 at *
    refine tkn 0 (.int .i64 1) rfl (by kernel_rfl) (fun _ _ _ h => h) (yieldsIf_move _ rfl rfl rfl) hHeld ?_
    simp only [ly, Act.put]
    refine tkn 1 (.string s) rfl (by kernel_rfl) (fun _ _ _ h => h) (yieldsIf_move _ rfl rfl rfl) hHeld ?_
    simp only [ly, Act.put]
    refine tkn 2 (.string (⟨#[105]⟩ ++ s)) rfl (by kernel_rfl) (fun _ _ _ h => h) (.inl ⟨by kernel_rfl, fun w _ => by go_simp⟩) hHeld ?_
    simp only [ly, Act.put]
    refine tkn 4 (.string s) rfl (by kernel_rfl) (fun _ _ _ h => h) (yieldsIf_move _ rfl rfl rfl) hHeld ?_
    simp only [ly, Act.put]
    refine tkn 6 (.int .i64 0) rfl (by kernel_rfl) (fun _ _ _ h => h) (yieldsIf_move _ rfl rfl rfl) hHeld ?_
    simp only [ly, Act.put]
    refine tkn 7 (.int .u64 0) rfl (by kernel_rfl) (fun _ _ _ h => h) (.inl ⟨by kernel_rfl, fun w _ => by go_simp⟩) hHeld ?_
    simp only [ly, Act.put]
    refine tkn 8 (.int .i64 1) rfl (by kernel_rfl) (fun _ _ _ h => h) (yieldsIf_move _ rfl rfl rfl) hHeld ?_
    simp only [ly, Act.put]
    refine tkn 9 (.int .u64 2) rfl (by kernel_rfl) (fun _ _ _ h => h) (.inl ⟨by kernel_rfl, fun w _ => by go_simp⟩) hHeld ?_
    simp only [ly, Act.put]
    refine tkn 10 (.int .u64 3) rfl (by kernel_rfl) (fun _ _ _ h => h) (.inl ⟨by kernel_rfl, fun w _ => by go_simp⟩) hHeld ?_
    simp only [ly, Act.put]
    refine tkn 11 (.int .u64 0) rfl (by kernel_rfl) (fun _ _ _ h => h) (.inl ⟨by kernel_rfl, fun w _ => by go_simp⟩) hHeld ?_
    simp only [ly, Act.put]
    refine tkn 12 (.int .i64 0) rfl (by kernel_rfl) (fun _ _ _ h => h) (.inl ⟨by kernel_rfl, fun w _ => by go_simp⟩) hHeld ?_
    simp only [ly, Act.put]
    refine wpAnyH_ready (rs := [3]) (by kernel_rfl) (by simp) (AllReadyH.cons rfl (fun K hK => ?_) AllReadyH.nil)
    have hK' := hid hK
    clear hK
    rw [if_pos (by kernel_rfl)]
    simp only [ly1, ly2, ly3]
    go_simp
    refine (hfi.out _).mono ?_
    rintro e W2 ⟨rfl, hb⟩
    have hZ2 := hid (hZ1.out.below hb hZ1.out.lt)
    have hB2 := hid (below_up hb hB1.out)
    clear hb hZ1 hB1
    refine hK'.out _ _ (by exact trivial) (fun hHeld => ?_)
    clear hK' K
    refine wpAnyH_ready (rs := [5]) (by kernel_rfl) (by simp) (AllReadyH.cons rfl (fun K hK => ?_) AllReadyH.nil)
    have hK' := hid hK
    clear hK
    rw [if_pos (by kernel_rfl)]
    simp only [ly1, ly2, ly3]
    go_simp
    refine (hfs.out _).mono ?_
    rintro e W3 ⟨rfl, hb⟩
    have hZ3 := hid (hZ2.out.below hb hZ2.out.lt)
    have hB3 := hid (below_up hb hB2.out)
    clear hb hZ2 hB2
    refine hK'.out _ _ (by exact trivial) (fun hHeld => ?_)
    clear hK' K
    refine tkn 13 (.agg (keyC 3 1 ki ks 0).toArray) rfl (by kernel_rfl) (fun _ _ _ h => h) (.inl ⟨by kernel_rfl, fun w _ => by unfold keyC; go_simp⟩) hHeld ?_
    simp only [ly, Act.put]
    refine wpAnyH_ready (rs := [14]) (by kernel_rfl) (by simp) (AllReadyH.cons rfl (fun K hK => ?_) AllReadyH.nil)
    have hK' := hid hK
    clear hK
    rw [if_pos (by kernel_rfl)]
    simp only [ly1, ly2, ly3]
    refine wp_store_mid _ _ _ rfl w.heap.size 0 (keyC 3 1 ki ks 0).toArray rfl rfl (by exact hZ3.out.there 0 _ (Nat.le_refl 5)) (by exact hsz.out) (by exact keyC_one _ _ _ _ _) ?_
    generalize hXx : World.setCells _ _ _ _ = W4
    have hZ4 := hid (Holds.over (cs := keyC 3 1 ki ks 0) hZ3.out rfl hXx)
    have hB4 := hid (below_put hB3.out (Nat.le_refl _) hXx)
    clear hXx
    refine hK'.out _ _ (by exact trivial) (fun hHeld => ?_)
    clear hK' K
    refine wpAnyH_done (by kernel_rfl) ?_ _
    go_wp2_with fail
    exact bodyPost_ret (results_cell_row rfl _ _ w.heap.size 23 _ (0, 0) _ rfl hZ4.out Try.underlying23 rfl (by exact hsz.out)) rfl ⟨rfl, hB4.out⟩
  · skip
    refine wp_region_held_drew (S := fun _ => True) (by kernel_rfl) (by exact trivial) (fun hHeld => ?_)
    generalize W0.drew = W1 at *
    refine tkn 0 (.int .i64 2) rfl (by kernel_rfl) (fun _ _ _ h => h) (yieldsIf_move _ rfl rfl rfl) hHeld ?_
    simp only [ly, Act.put]
    refine tkn 1 (.string s) rfl (by kernel_rfl) (fun _ _ _ h => h) (yieldsIf_move _ rfl rfl rfl) hHeld ?_
    simp only [ly, Act.put]
    refine tkn 2 (.string (⟨#[105]⟩ ++ s)) rfl (by kernel_rfl) (fun _ _ _ h => h) (.inl ⟨by kernel_rfl, fun w _ => by go_simp⟩) hHeld ?_
    simp only [ly, Act.put]
    refine tkn 4 (.string s) rfl (by kernel_rfl) (fun _ _ _ h => h) (yieldsIf_move _ rfl rfl rfl) hHeld ?_
    simp only [ly, Act.put]
    refine tkn 6 (.int .i64 0) rfl (by kernel_rfl) (fun _ _ _ h => h) (yieldsIf_move _ rfl rfl rfl) hHeld ?_
    simp only [ly, Act.put]
    refine tkn 7 (.int .u64 0) rfl (by kernel_rfl) (fun _ _ _ h => h) (.inl ⟨by kernel_rfl, fun w _ => by go_simp⟩) hHeld ?_
    simp only [ly, Act.put]
    refine tkn 8 (.int .i64 2) rfl (by kernel_rfl) (fun _ _ _ h => h) (yieldsIf_move _ rfl rfl rfl) hHeld ?_
    simp only [ly, Act.put]
    refine tkn 9 (.int .u64 4) rfl (by kernel_rfl) (fun _ _ _ h => h) (.inl ⟨by kernel_rfl, fun w _ => by go_simp⟩) hHeld ?_
    simp only [ly, Act.put]
    refine tkn 10 (.int .u64 5) rfl (by kernel_rfl) (fun _ _ _ h => h) (.inl ⟨by kernel_rfl, fun w _ => by go_simp⟩) hHeld ?_
    simp only [ly, Act.put]
    refine tkn 11 (.int .u64 0) rfl (by kernel_rfl) (fun _ _ _ h => h) (.inl ⟨by kernel_rfl, fun w _ => by go_simp⟩) hHeld ?_
    simp only [ly, Act.put]
    refine tkn 12 (.int .i64 0) rfl (by kernel_rfl) (fun _ _ _ h => h) (.inl ⟨by kernel_rfl, fun w _ => by go_simp⟩) hHeld ?_
    simp only [ly, Act.put]
    refine wpAnyH_ready (rs := [3]) (by kernel_rfl) (by simp) (AllReadyH.cons rfl (fun K hK => ?_) AllReadyH.nil)
    have hK' := hid hK
    clear hK
    rw [if_pos (by kernel_rfl)]
    simp only [ly1, ly2, ly3]
    go_simp
    refine (hfi.out _).mono ?_
    rintro e W2 ⟨rfl, hb⟩
    have hZ2 := hid (hZ1.out.below hb hZ1.out.lt)
    have hB2 := hid (below_up hb hB1.out)
    clear hb hZ1 hB1
    refine hK'.out _ _ (by exact trivial) (fun hHeld => ?_)
    clear hK' K
    refine wpAnyH_ready (rs := [5]) (by kernel_rfl) (by simp) (AllReadyH.cons rfl (fun K hK => ?_) AllReadyH.nil)
    have hK' := hid hK
    clear hK
    rw [if_pos (by kernel_rfl)]
    simp only [ly1, ly2, ly3]
    go_simp
    refine (hfs.out _).mono ?_
    rintro e W3 ⟨rfl, hb⟩
    have hZ3 := hid (hZ2.out.below hb hZ2.out.lt)
    have hB3 := hid (below_up hb hB2.out)
    clear hb hZ2 hB2
    refine hK'.out _ _ (by exact trivial) (fun hHeld => ?_)
    clear hK' K
    refine tkn 13 (.agg (keyC 3 2 ki ks 0).toArray) rfl (by kernel_rfl) (fun _ _ _ h => h) (.inl ⟨by kernel_rfl, fun w _ => by unfold keyC; go_simp⟩) hHeld ?_
    simp only [ly, Act.put]
    refine wpAnyH_ready (rs := [14]) (by kernel_rfl) (by simp) (AllReadyH.cons rfl (fun K hK => ?_) AllReadyH.nil)
    have hK' := hid hK
    clear hK
    rw [if_pos (by kernel_rfl)]
    simp only [ly1, ly2, ly3]
    refine wp_store_mid _ _ _ rfl w.heap.size 0 (keyC 3 2 ki ks 0).toArray rfl rfl (by exact hZ3.out.there 0 _ (Nat.le_refl 5)) (by exact hsz.out) (by exact keyC_one _ _ _ _ _) ?_
    generalize hXx : World.setCells _ _ _ _ = W4
    have hZ4 := hid (Holds.over (cs := keyC 3 2 ki ks 0) hZ3.out rfl hXx)
    have hB4 := hid (below_put hB3.out (Nat.le_refl _) hXx)
    clear hXx
    refine hK'.out _ _ (by exact trivial) (fun hHeld => ?_)
    clear hK' K
    refine wpAnyH_done (by kernel_rfl) ?_ _
    go_wp2_with fail
    exact bodyPost_ret (results_cell_row rfl _ _ w.heap.size 23 _ (0, 0) _ rfl hZ4.out Try.underlying23 rfl (by exact hsz.out)) rfl ⟨rfl, hB4.out⟩

end Go.Proofs.Ytmfajekfipfjpaa
namespace Go.Proofs.Ytmfajekfipfjpaa
open Go.RowKit
open Go.Lib (strCells strCells_length strCells_oneCell)
attribute [local irreducible] Sha.compress Sha.blocks Sha.sha Sha.pad

theorem par3 : Ots.par 3 = some Ots.o4 := rfl
theorem kId_size (s : ByteArray) : (kId s).size = 16 := fillT_size _ _
theorem kSeed_size (s : ByteArray) : (kSeed s).size = 32 := fillT_size _ _
def kCells (s : ByteArray) (h q : Nat) : List Value := keyC 3 (h : Int) (kId s) (kSeed s) (q : Int)
theorem kCells_size (s : ByteArray) (h q : Nat) : (Try.prog.info? 23).map (·.size) = some (kCells s h q).length := sizeKey
theorem kCells_one (s : ByteArray) (h q : Nat) : (kCells s h q).toArray.all (·.oneCell') = true := keyC_one _ _ _ _ _
theorem kOk (s : ByteArray) (h q : Nat) (hh : h = 1 ∨ h = 2) (hq : q ≤ 2 ^ h) : keyOk 3 (h : Int) (kId s) (kSeed s) (q : Int) = true := by
  unfold keyOk
  rw [par3, kId_size, kSeed_size]
  rcases hh with rfl | rfl
  · have : (q : Int) ≤ 2 := by omega
    simp [this]
  · have : (q : Int) ≤ 4 := by omega
    simp [this]
def kPub (s : ByteArray) (h : Nat) : ByteArray := pubT Ots.o4 3 h (kId s) (kSeed s)
def kSig (s : ByteArray) (h q : Nat) (msg : ByteArray) : ByteArray := sigT Ots.o4 3 h (kId s) (kSeed s) q msg
theorem kPublic (s : ByteArray) (h q : Nat) (hh : h = 1 ∨ h = 2) (hq : q ≤ 2 ^ h) (w : World) : Calls Try.prog 12 #[.agg (kCells s h q).toArray] w fun e w' => e = .returned (.tuple #[.string (kPub s h), .int .i64 0]) ∧ Below w.heap.size w w' :=
  lmsPublic_good Ots.o4 3 h par3 (by omega) (by omega) (kId s) (kSeed s) (kId_size s) (kSeed_size s) (q : Int) (kOk s h q hh hq) w
theorem kSign (s : ByteArray) (h q : Nat) (hh : h = 1 ∨ h = 2) (hq : q < 2 ^ h) (msg : ByteArray) (hm : msg.size ≤ 65536) (w : World) : Calls Try.prog 14 #[.agg (kCells s h q).toArray, .string msg] w fun e w' => e = .returned (.tuple #[.string (kSig s h q msg), .agg (kCells s h (q + 1)).toArray, .int .i64 0]) ∧ Below w.heap.size w w' :=
  lmsSign_good Ots.o4 3 h q par3 (by omega) (by omega) (kId s) (kSeed s) (kId_size s) (kSeed_size s) hq (kOk s h q hh (by omega)) msg hm w
theorem kSpent (s : ByteArray) (h : Nat) (hh : h = 1 ∨ h = 2) (msg : ByteArray) (hm : msg.size ≤ 65536) (w : World) : Calls Try.prog 14 #[.agg (kCells s h (2 ^ h)).toArray, .string msg] w fun e w' => e = .returned (.tuple #[.string ⟨#[]⟩, .agg zk.toArray, .int .i64 501]) ∧ Below w.heap.size w w' :=
  lmsSign_spent 3 (h : Int) (kId s) (kSeed s) ((2 ^ h : Nat) : Int) (kOk s h (2 ^ h) hh (Nat.le_refl _)) msg hm (by omega) rfl w
theorem kVerify (s : ByteArray) (h q : Nat) (hh : h = 1 ∨ h = 2) (hq : q < 2 ^ h) (msg : ByteArray) (hm : msg.size ≤ 65536) : Lms.verify (kPub s h).data.toList msg.data.toList (kSig s h q msg).data.toList = 0 :=
  Lms.verify_ok Ots.o4 3 h _ _ q _ par3 (by decide) (by omega) (by omega) (by rw [data_length, kId_size]) hq (by rw [data_length]; exact hm)
theorem kPub_size (s : ByteArray) (h : Nat) : (kPub s h).size = 56 := by
  have e := (Lms.pub_parts Ots.o4 3 h (kId s).data.toList (kSeed s).data.toList (by rw [data_length, kId_size])).1
  rw [← data_length]
  exact e
theorem kSig_size (s : ByteArray) (h q : Nat) (msg : ByteArray) : (kSig s h q msg).size = 2188 + 32 * h := by
  have e := (Lms.sign_parts Ots.o4 3 h (kId s).data.toList (kSeed s).data.toList q msg.data.toList).1
  rw [← data_length]
  exact e
theorem kWrong : Lms.verify (kPub ⟨#[115]⟩ 1).data.toList (⟨#[120]⟩ : ByteArray).data.toList (kSig ⟨#[115]⟩ 1 0 ⟨#[109]⟩).data.toList = 502 := by
  have hi : (kId ⟨#[115]⟩).data.toList = Lms.id0 := rfl
  have hs : (kSeed ⟨#[115]⟩).data.toList = Lms.seed0 := rfl
  have e := Lms.verify_sign Ots.o4 3 1 (kId ⟨#[115]⟩).data.toList (kSeed ⟨#[115]⟩).data.toList 0 [109] [120] par3 (by decide) (by decide) (by decide) (by rw [data_length, kId_size]) (by decide) (by decide)
  rw [hi, hs] at e
  have hc : Lms.climb Lms.id0 (Lms.path Lms.id0 (Lms.keys Ots.o4 Lms.id0 Lms.seed0 1) 1 0 (2 ^ 1 + 0)) (2 ^ 1 + 0) (Lms.leaf Lms.id0 (2 ^ 1 + 0) (Ots.cand Ots.o4 (Ots.head Lms.id0 0) [120] (Ots.sign Ots.o4 3 (Ots.head Lms.id0 0) Lms.seed0 [109]))) =
      Lms.join Lms.id0 1 (Lms.leaf Lms.id0 2 (Ots.cand Ots.o4 (Ots.head Lms.id0 0) [120] (Ots.sign Ots.o4 3 (Ots.head Lms.id0 0) Lms.seed0 [109]))) (Lms.leaf Lms.id0 3 (Ots.pub Ots.o4 (Ots.head Lms.id0 1) Lms.seed0)) := by
    simp only [Lms.path, Lms.climb, Lms.other, Lms.node, Lms.keys]
    rfl
  have hn : Lms.node Lms.id0 (Lms.keys Ots.o4 Lms.id0 Lms.seed0 1) 1 1 = Lms.join Lms.id0 1 (Lms.leaf Lms.id0 2 (Ots.pub Ots.o4 (Ots.head Lms.id0 0) Lms.seed0)) (Lms.leaf Lms.id0 3 (Ots.pub Ots.o4 (Ots.head Lms.id0 1) Lms.seed0)) := by
    simp only [Lms.node, Lms.keys]
  rw [hc, hn, if_neg Lms.wrong0] at e
  unfold kPub kSig pubT sigT
  rw [hi, hs, txt_list, txt_list]
  exact e

theorem key_new {W W7 : World} {cs : List Value} (hc : cs.length = 5) (h : (W.alloc (.cells zk.toArray 23)).setCells W.heap.size 0 cs = W7) : Holds W7 W.heap.size 23 cs ∧ Below W.heap.size W W7 := by
  have hH := Holds.new W 23 zk.toArray
  have hb : Below W.heap.size W (W.alloc (.cells zk.toArray 23)) := (Below.refl _ _).alloc (Nat.le_refl _) _
  exact ⟨Holds.over hH (by rw [hc]; rfl) h, below_put hb (Nat.le_refl _) h⟩
theorem key_there (W : World) (cs : List Value) (hc : cs.length = 5) : (W.alloc (.cells zk.toArray 23)).there W.heap.size 0 cs.toArray.size := (Holds.new W 23 zk.toArray).there 0 _ (by rw [List.size_toArray, hc]; exact Nat.le_refl 5)
/-- A list of cells that is a key's. -/
structure KeyC (cs : List Value) : Prop where
  len : cs.length = 5
  one : cs.toArray.all (·.oneCell') = true
  size : (Try.prog.info? 23).map (·.size) = some cs.toArray.size
  size' : (Try.prog.info? 23).map (·.size) = some cs.length
theorem kKey (s : ByteArray) (h q : Nat) : KeyC (kCells s h q) := ⟨rfl, kCells_one s h q, sizeKey, sizeKey⟩
theorem zKey : KeyC zk := ⟨rfl, zk_one, sizeKey, sizeKey⟩

set_option maxRecDepth 100000 in
set_option maxHeartbeats 2000000 in
theorem awake5_any (w : World) : Calls Try.prog 17 #[] w fun e w' => e = .returned (.bool true) ∧ Below w.heap.size w w' := by
  obtain ⟨kc, hkc⟩ : ∃ c, kCells ⟨#[115]⟩ 1 0 = c := ⟨_, rfl⟩
  obtain ⟨kc1, hkc1⟩ : ∃ c, kCells ⟨#[115]⟩ 1 1 = c := ⟨_, rfl⟩
  obtain ⟨kc2, hkc2⟩ : ∃ c, kCells ⟨#[115]⟩ 1 2 = c := ⟨_, rfl⟩
  obtain ⟨pb, hpb⟩ : ∃ c, kPub ⟨#[115]⟩ 1 = c := ⟨_, rfl⟩
  obtain ⟨sg, hsg⟩ : ∃ c, kSig ⟨#[115]⟩ 1 0 ⟨#[109]⟩ = c := ⟨_, rfl⟩
  have hKey := hid (fun W => show Calls Try.prog 20 #[.string ⟨#[115]⟩, .int .i64 0, .int .i64 0] W fun e w' => e = .returned (.agg kc.toArray) ∧ Below W.heap.size W w' from by rw [← hkc]; exact Key_any ⟨#[115]⟩ 0 (by decide) W)
  have hPub := hid (fun W => kPublic ⟨#[115]⟩ 1 0 (.inl rfl) (by decide) W)
  have hSg := hid (fun W => kSign ⟨#[115]⟩ 1 0 (.inl rfl) (by decide) ⟨#[109]⟩ (by decide) W)
  have hSp := hid (fun W => kSpent ⟨#[115]⟩ 1 (.inl rfl) ⟨#[109]⟩ (by decide) W)
  rw [hkc, hpb] at hPub
  rw [hkc, hsg, hkc1] at hSg
  rw [show 2 ^ 1 = 2 from rfl, hkc2] at hSp
  have hC := hid (hkc ▸ kKey ⟨#[115]⟩ 1 0 : KeyC kc)
  have hC1 := hid (hkc1 ▸ kKey ⟨#[115]⟩ 1 1 : KeyC kc1)
  have hC2 := hid (hkc2 ▸ kKey ⟨#[115]⟩ 1 2 : KeyC kc2)
  have hCz := hid zKey
  have zs : sg.size ≤ 140737488351232 := by rw [← hsg, kSig_size]; decide
  have zp := hid (show ((pb.size : Int) == 56) = true from by rw [← hpb, kPub_size]; rfl)
  have v1 := hid (fun W => show Calls Try.prog 18 #[.string pb, .string ⟨#[109]⟩, .string sg] W fun e w' => e = .returned (.int .i64 0) ∧ Below W.heap.size W w' from by
    have e := kVerify ⟨#[115]⟩ 1 0 (.inl rfl) (by decide) ⟨#[109]⟩ (by decide)
    rw [hpb, hsg] at e
    have h := Verify_any pb ⟨#[109]⟩ sg (by decide) zs W
    rw [e] at h
    exact h)
  have v2 := hid (fun W => show Calls Try.prog 18 #[.string pb, .string ⟨#[120]⟩, .string sg] W fun e w' => e = .returned (.int .i64 502) ∧ Below W.heap.size W w' from by
    have e := kWrong
    rw [hpb, hsg] at e
    have h := Verify_any pb ⟨#[120]⟩ sg (by decide) zs W
    rw [e] at h
    exact h)
  have v3 := hid (fun W => show Calls Try.prog 18 #[.string ⟨#[]⟩, .string ⟨#[109]⟩, .string sg] W fun e w' => e = .returned (.int .i64 500) ∧ Below W.heap.size W w' from by
    have e : Lms.verify (⟨#[]⟩ : ByteArray).data.toList (⟨#[109]⟩ : ByteArray).data.toList sg.data.toList = 500 := by
      unfold Lms.verify
      exact if_neg (by decide)
    have h := Verify_any ⟨#[]⟩ ⟨#[109]⟩ sg (by decide) zs W
    rw [e] at h
    exact h)
  have hset := hid (show kc.set 4 (.int .i64 2) = kc2 from by rw [← hkc, ← hkc2]; rfl)
  have hone := hid (show kc1[4]? = some (.int .i64 1) from by rw [← hkc1]; rfl)
  clear hkc hkc1 hkc2 hpb hsg zs
  go_enter Try.func17, Try.ntmps17
  go_wp2_with fail
  refine (hKey.out _).mono ?_
  rintro e W1 ⟨rfl, hb⟩
  have hB1 := hid hb
  have hle1 := hid hb.size
  clear hb
  go_wp2_with (first
    | ((with_reducible refine at_slot (some 1) ?_); refine wpList_run rfl (.pointer (some ⟨W1.heap.size, 0, none⟩)) (W1.alloc (.cells zk.toArray 23)) (by kernel_rfl) ?_)
    | ((with_reducible refine at_slot none ?_); refine wpList_store_mid rfl 23 (.tmp 1) (.tmp 13) rfl W1.heap.size 0 kc.toArray rfl rfl (by exact key_there W1 _ hC.out.len) (by exact hC.out.size) (by exact hC.out.one) ?_; generalize hW : World.setCells _ _ _ _ = W2; obtain ⟨hN, hb⟩ := key_new hC.out.len hW; have hB2 := hid (below_up hb hB1.out); have hK2 := hid hN; clear hb hB1 hN; clear hW)
    | ((with_reducible refine at_slot (some 15) ?_); refine wpList_load_mid rfl 23 (.tmp 1) rfl W1.heap.size 0 rfl kc _ (by exact h_all hK2.out) Try.underlying23 rfl (by exact hC.out.size') ?_)
    | fail)
  refine (hPub.out _).mono ?_
  rintro e W3 ⟨rfl, hb⟩
  have hB3 := hid (below_up hb hB2.out)
  have hK3 := hid (hK2.out.below hb hK2.out.lt)
  clear hb hB2 hK2
  go_wp2_with (first
    | ((with_reducible refine at_slot (some 20) ?_); refine wpList_load_mid rfl 23 (.tmp 1) rfl W1.heap.size 0 rfl kc _ (by exact h_all hK3.out) Try.underlying23 rfl (by exact hC.out.size') ?_)
    | fail)
  skip
  refine (hSg.out _).mono ?_
  rintro e W4 ⟨rfl, hb⟩
  have hB4 := hid (below_up hb hB3.out)
  have hK4 := hid (hK3.out.below hb hK3.out.lt)
  clear hb hB3 hK3
  have hlt14 := hid (show W1.heap.size < W4.heap.size from hK4.out.lt)
  go_wp2_with (first
    | ((with_reducible refine at_slot (some 5) ?_); refine wpList_run rfl (.pointer (some ⟨W4.heap.size, 0, none⟩)) (W4.alloc (.cells zk.toArray 23)) (by kernel_rfl) ?_)
    | ((with_reducible refine at_slot none ?_); refine wpList_store_mid rfl 23 (.tmp 5) (.tmp 23) rfl W4.heap.size 0 kc1.toArray rfl rfl (by exact key_there W4 _ hC1.out.len) (by exact hC1.out.size) (by exact hC1.out.one) ?_; generalize hW : World.setCells _ _ _ _ = W5; obtain ⟨hN, hb⟩ := key_new hC1.out.len hW; have hB5 := hid (below_up hb hB4.out); have hK5 := hid (hK4.out.below hb hK4.out.lt); have hN5 := hid hN; clear hb hB4 hK4 hN; clear hW)
    | fail)
  refine (v1.out _).mono ?_
  rintro e W6 ⟨rfl, hb⟩
  have hB6 := hid (below_up hb hB5.out)
  have hK6 := hid (hK5.out.below hb hK5.out.lt)
  have hN6 := hid (hN5.out.below hb hN5.out.lt)
  clear hb hB5 hK5 hN5
  go_wp2_with fail
  refine (v2.out _).mono ?_
  rintro e W7 ⟨rfl, hb⟩
  have hB7 := hid (below_up hb hB6.out)
  have hK7 := hid (hK6.out.below hb hK6.out.lt)
  have hN7 := hid (hN6.out.below hb hN6.out.lt)
  clear hb hB6 hK6 hN6
  go_wp2_with fail
  refine (v3.out _).mono ?_
  rintro e W8 ⟨rfl, hb⟩
  have hB8 := hid (below_up hb hB7.out)
  have hK8 := hid (hK7.out.below hb hK7.out.lt)
  have hN8 := hid (hN7.out.below hb hN7.out.lt)
  clear hb hB7 hK7 hN7
  have f4 : W8.frozen? ⟨W1.heap.size, 4, none⟩ = false := hK8.out.frozen 4
  have hc4 : (W8.cell? ⟨W1.heap.size, 4, none⟩).isSome = true := by rw [hK8.out.cell]; simp [hC.out.len]
  obtain ⟨c4, hc4e⟩ := Option.isSome_iff_exists.1 hc4
  clear hc4
  have hlt : W1.heap.size < W4.heap.size := hlt14.out
  have hKn := hid (show Holds (W8.setCell ⟨W1.heap.size, 4, none⟩ (.int .i64 2)) W1.heap.size 23 kc2 from by rw [← hset.out]; exact hK8.out.set 4 _)
  have hNn := hid (show Holds (W8.setCell ⟨W1.heap.size, 4, none⟩ (.int .i64 2)) W4.heap.size 23 kc1 from holds_far (vs := [.int .i64 2]) hN8.out (by omega) rfl)
  have hBn := hid (show Below w.heap.size w (W8.setCell ⟨W1.heap.size, 4, none⟩ (.int .i64 2)) from below_put (vs := [.int .i64 2]) hB8.out hle1.out rfl)
  go_wp2_with (first
    | ((with_reducible refine at_slot (some 35) ?_); refine wpList_load_mid rfl 23 (.tmp 1) rfl W1.heap.size 0 rfl kc2 _ (by exact h_all hKn.out) Try.underlying23 rfl (by exact hC2.out.size') ?_)
    | fail)
  obtain ⟨W9, hWn⟩ : ∃ V, (W8.setCell ⟨W1.heap.size, 4, none⟩ (.int .i64 2)) = V := ⟨_, rfl⟩
  rw [hWn] at hKn hNn hBn ⊢
  clear hWn f4 hc4e hK8 hN8 hB8
  have hK9 := hKn
  have hN9 := hNn
  have hB9 := hBn
  clear hKn hNn hBn
  refine (hSp.out _).mono ?_
  rintro e W10 ⟨rfl, hb⟩
  have hB10 := hid (below_up hb hB9.out)
  have hK10 := hid (hK9.out.below hb hK9.out.lt)
  have hN10 := hid (hN9.out.below hb hN9.out.lt)
  clear hb hB9 hK9 hN9
  have zp' := zp.out
  go_wp2_with (first
    | ((with_reducible refine at_slot (some 11) ?_); refine wpList_run rfl (.pointer (some ⟨W10.heap.size, 0, none⟩)) (W10.alloc (.cells zk.toArray 23)) (by kernel_rfl) ?_)
    | ((with_reducible refine at_slot none ?_); refine wpList_store_mid rfl 23 (.tmp 11) (.tmp 38) rfl W10.heap.size 0 zk.toArray rfl rfl (by exact key_there W10 _ hCz.out.len) (by exact hCz.out.size) (by exact hCz.out.one) ?_; generalize hW : World.setCells _ _ _ _ = W11; obtain ⟨hN, hb⟩ := key_new hCz.out.len hW; have hB11 := hid (below_up hb hB10.out); have hK11 := hid (hK10.out.below hb hK10.out.lt); have hN11 := hid (hN10.out.below hb hN10.out.lt); have hZ11 := hid hN; clear hb hB10 hK10 hN10 hN; have n4 := hN11.out.c 4 _ hone.out; clear hW)
    | (go_at_call 16; refine (errNum_any _ _).mono ?_; rintro e w' ⟨rfl, rfl⟩)
    | fail)
  go_ret
  exact ⟨rfl, hB11.out⟩

end Go.Proofs.Ytmfajekfipfjpaa
