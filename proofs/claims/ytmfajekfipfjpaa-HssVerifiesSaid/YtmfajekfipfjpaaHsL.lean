/- Layer 6, the reference: HssVerify; the law HssVerifies. -/
import Derived.Test.YtmfajekfipfjpaaLmRw
import Derived.Test.YtmfajekfipfjpaaHsO
namespace Go.Proofs.Ytmfajekfipfjpaa
open Go.RowKit
open Go.Lib (strCells strCells_length strCells_oneCell)
attribute [local irreducible] Sha.compress Sha.blocks Sha.sha Sha.pad

theorem hVer_no {pb msg s : ByteArray} (h : ¬ pGood pb s) : hVer pb msg s = 600 := if_neg (fun x => h x.1)
theorem rNum_beh (s : ByteArray) (x : Nat) : rNum s.data.toList 0 = (x : Int) ↔ behOk s x = true := by
  unfold rNum behOk
  rw [data_length, List.drop_zero]
  by_cases h : 0 + 4 ≤ s.size
  · rw [if_pos h, decide_eq_true_iff]
    constructor
    · intro e; exact ⟨by omega, by omega⟩
    · rintro ⟨_, e⟩; omega
  · rw [if_neg h, decide_eq_true_iff]
    constructor
    · intro e; omega
    · rintro ⟨e, _⟩; omega
theorem rNum_drop (l : List UInt8) (k a : Nat) (hk : k ≤ l.length) : rNum (l.drop k) a = rNum l (k + a) := by
  unfold rNum
  rw [List.length_drop, List.drop_drop]
  by_cases h : k + a + 4 ≤ l.length
  · rw [if_pos h, if_pos (by omega)]
  · rw [if_neg h, if_neg (by omega)]
theorem rSize_sl (l : List UInt8) (h : 8 ≤ l.length) : rSize (rNum l 0) (rNum l 4) = if slOk l = true then slLen l else 0 := by
  rw [rNum_yes (l := l) (a := 0) (by omega), rNum_yes (l := l) (a := 4) (by omega), List.drop_zero]
  unfold rSize slOk slLen parOr
  rw [rHgt_nat]
  cases ep : Ots.par (numL ((l.drop 4).take 4) : Int) with
  | none => rw [Option.isSome_none, Bool.and_false, if_neg (by decide)]
  | some o =>
    rw [Option.isSome_some, Bool.and_true, Option.getD_some]
    cases eh : Lms.heightOf (numL (l.take 4)) with
    | none =>
      have e1 : hgt (numL (l.take 4)) = 0 := by unfold hgt; rw [eh]; rfl
      have e2 : hgtIs (numL (l.take 4)) = false := by unfold hgtIs; rw [eh]; rfl
      rw [e1, e2]
      rfl
    | some k =>
      obtain ⟨e1, e2, h1, _⟩ := hgt_some eh
      rw [e1, e2, if_pos rfl]
      exact if_neg (by omega)
theorem beh_list {s : ByteArray} {x : Nat} (h : behOk s x = true) : behT s x = s.extract 4 s.size ∧ (behT s x).data.toList = s.data.toList.drop 4 ∧ (behT s x).size = s.size - 4 ∧ 4 ≤ s.size := by
  have e : behT s x = s.extract 4 s.size := if_pos h
  have h4 : 4 ≤ s.size := (of_decide_eq_true h).1
  refine ⟨e, ?_, by rw [e, ByteArray.size_extract]; omega, h4⟩
  rw [e, cut_mid]
  exact List.take_of_length_le (by rw [List.length_drop, data_length]; omega)
theorem hVer_ref (pb msg s : ByteArray) (N : Nat) (hN : rSize (rNum pb.data.toList 4) (rNum pb.data.toList 8) = N) :
    (¬ (pb.size = 60 ∧ rNum pb.data.toList 0 = 2 ∧ rNum s.data.toList 0 = 1) → hVer pb msg s = 600) ∧
    (pb.size = 60 → rNum pb.data.toList 0 = 2 → rNum s.data.toList 0 = 1 → (N ≤ 3000 ∧ (N = 0 ∨ s.size < 60 + N → hVer pb msg s = 600) ∧
      (N ≠ 0 → 60 + N ≤ s.size → hVer pb msg s = comb (Lms.verify (pb.extract 4 pb.size).data.toList (s.extract (4 + N) (60 + N)).data.toList (s.extract 4 (4 + N)).data.toList) (Lms.verify (s.extract (4 + N) (60 + N)).data.toList msg.data.toList (s.extract (60 + N) s.size).data.toList)))) := by
  refine ⟨fun h => hVer_no (fun g => h ?_), fun h60 h2 h1 => ?_⟩
  · obtain ⟨g1, g2, g3, -⟩ := g
    have := (beh_list g1).2.2
    exact ⟨by omega, (rNum_beh pb 2).2 g1, (rNum_beh s 1).2 g3⟩
  have o1 : behOk pb 2 = true := (rNum_beh pb 2).1 h2
  have o2 : behOk s 1 = true := (rNum_beh s 1).1 h1
  obtain ⟨p1, p2, p3, -⟩ := beh_list o1
  obtain ⟨s1, s2, s3, s4⟩ := beh_list o2
  have hlen : pb.data.toList.length = 60 := by rw [data_length]; exact h60
  have e4 : rNum (behT pb 2).data.toList 0 = rNum pb.data.toList 4 := by rw [p2]; exact rNum_drop _ 4 0 (by omega)
  have e8 : rNum (behT pb 2).data.toList 4 = rNum pb.data.toList 8 := by rw [p2]; exact rNum_drop _ 4 4 (by omega)
  have hR := rSize_sl (behT pb 2).data.toList (by rw [data_length]; omega)
  rw [e4, e8, hN] at hR
  have hle := slLen_le (behT pb 2).data.toList
  have hge : 44 ≤ slLen (behT pb 2).data.toList := by unfold slLen; omega
  by_cases hok : slOk (behT pb 2).data.toList = true
  · rw [if_pos hok] at hR
    have hpn : pN pb = N := hR.symm
    refine ⟨by omega, fun h => hVer_no (fun g => ?_), fun h0 hs => ?_⟩
    · have := g.2.2.2.2
      omega
    · have hg : pGood pb s := ⟨o1, by omega, o2, hok, by omega⟩
      have x1 : pLow pb s = s.extract (4 + N) (60 + N) := by
        unfold pLow
        refine hb_ext ?_
        rw [cut_mid, cut_mid, s2, List.drop_drop, hpn]
        congr 1
        omega
      have x2 : pOne pb s = s.extract 4 (4 + N) := by
        unfold pOne
        refine hb_ext ?_
        rw [cut_mid, cut_mid, s2, hpn, List.drop_zero]
        congr 1
        omega
      have x3 : pTwo pb s = s.extract (60 + N) s.size := by
        unfold pTwo
        refine hb_ext ?_
        rw [cut_mid, cut_mid, s2, List.drop_drop, hpn, s3, show 4 + (N + 56) = 60 + N by omega]
        congr 1
        omega
      unfold hVer
      rw [x1, x2, x3, p1]
      by_cases hpo : pOk pb s = true
      · rw [if_pos ⟨hg, hpo⟩]
      · rw [if_neg (fun h => hpo h.2)]
        have hz : (s.extract (4 + N) (60 + N)).size = 56 := by rw [ByteArray.size_extract]; omega
        have hv : Lms.verify (s.extract (4 + N) (60 + N)).data.toList msg.data.toList (s.extract (60 + N) s.size).data.toList = 500 := by
          refine verify_no (.inr ?_)
          rw [rSize_sl _ (by rw [data_length]; omega)]
          unfold pOk at hpo
          rw [x1, x3] at hpo
          by_cases hsl : slOk (s.extract (4 + N) (60 + N)).data.toList = true
          · rw [hsl, Bool.true_and, decide_eq_true_iff] at hpo
            refine .inr (.inl ?_)
            rw [if_pos hsl, data_length]
            exact hpo
          · exact .inl (if_neg hsl)
        rw [hv]
        exact (if_pos (.inr rfl)).symm
  · rw [if_neg hok] at hR
    exact ⟨by omega, fun _ => hVer_no (fun g => hok g.2.2.2.1), fun h0 => absurd hR h0⟩

set_option maxRecDepth 100000 in
set_option maxHeartbeats 2000000 in
theorem rHssVerify_any (pb msg s : ByteArray) (hpb : pb.size ≤ 140737488351232) (hss : s.size ≤ 140737488351232) (w : World) : Calls Try.prog 26 #[.string pb, .string msg, .string s] w fun e w' => e = .returned (.int .i64 (hVer pb msg s)) ∧ Below w.heap.size w w' := by
  have hNum := hid (fun (t : ByteArray) (ht : t.size ≤ 140737488351232) (a : Nat) (ha : a ≤ 100) W => show Calls Try.prog 52 #[.string t, .int .i64 (a : Int)] W fun e w' => e = .returned (.int .i64 (rNum t.data.toList a)) ∧ Below W.heap.size W w' from (rNum_any t a ht (by omega) W).mono (by rintro e w' ⟨he, m, rfl⟩; exact ⟨he, ⟨rfl, rfl, rfl, Nat.le_refl _, fun _ _ => rfl⟩⟩))
  have n0 := hid (fun W => hNum.out pb hpb 0 (by decide) W)
  have n4 := hid (fun W => hNum.out pb hpb 4 (by decide) W)
  have n8 := hid (fun W => hNum.out pb hpb 8 (by decide) W)
  have m0 := hid (fun W => hNum.out s hss 0 (by decide) W)
  have hSz := hid (fun W => rSize_any (rNum pb.data.toList 4) (rNum pb.data.toList 8) W)
  obtain ⟨N, hN⟩ : ∃ N, rSize (rNum pb.data.toList 4) (rNum pb.data.toList 8) = N := ⟨_, rfl⟩
  obtain ⟨f1, f2⟩ := hVer_ref pb msg s N hN
  have hV1 := hid (fun W => rLmsVerify_any (pb.extract 4 pb.size) (s.extract (4 + N) (60 + N)) (s.extract 4 (4 + N)) (by rw [ByteArray.size_extract]; omega) (by rw [ByteArray.size_extract]; omega) W)
  have hV2 := hid (fun W => rLmsVerify_any (s.extract (4 + N) (60 + N)) msg (s.extract (60 + N) s.size) (by rw [ByteArray.size_extract]; omega) (by rw [ByteArray.size_extract]; omega) W)
  have h3 := hid (And.intro (verify_three (pb.extract 4 pb.size).data.toList (s.extract (4 + N) (60 + N)).data.toList (s.extract 4 (4 + N)).data.toList) (verify_three (s.extract (4 + N) (60 + N)).data.toList msg.data.toList (s.extract (60 + N) s.size).data.toList))
  rw [hN] at hSz
  obtain ⟨va, hva⟩ : ∃ v, Lms.verify (pb.extract 4 pb.size).data.toList (s.extract (4 + N) (60 + N)).data.toList (s.extract 4 (4 + N)).data.toList = v := ⟨_, rfl⟩
  obtain ⟨vb, hvb⟩ : ∃ v, Lms.verify (s.extract (4 + N) (60 + N)).data.toList msg.data.toList (s.extract (60 + N) s.size).data.toList = v := ⟨_, rfl⟩
  rw [hva] at hV1 h3 f2
  rw [hvb] at hV2 h3 f2
  obtain ⟨a0, ha0⟩ : ∃ a, rNum pb.data.toList 0 = a := ⟨_, rfl⟩
  obtain ⟨a4, ha4⟩ : ∃ a, rNum pb.data.toList 4 = a := ⟨_, rfl⟩
  obtain ⟨a8, ha8⟩ : ∃ a, rNum pb.data.toList 8 = a := ⟨_, rfl⟩
  obtain ⟨b0, hb0⟩ : ∃ a, rNum s.data.toList 0 = a := ⟨_, rfl⟩
  obtain ⟨R, hR⟩ : ∃ R, hVer pb msg s = R := ⟨_, rfl⟩
  rw [ha0] at n0 f1 f2
  rw [ha4] at n4 hSz
  rw [ha8] at n8 hSz
  rw [hb0] at m0 f1 f2
  rw [hR] at f1 f2 ⊢
  obtain ⟨k4, hk4⟩ : ∃ k, 4 + N = k := ⟨_, rfl⟩
  obtain ⟨k60, hk60⟩ : ∃ k, 60 + N = k := ⟨_, rfl⟩
  rw [hk4, hk60] at hV1 hV2
  obtain ⟨P, hP⟩ : ∃ t, pb.extract 4 pb.size = t := ⟨_, rfl⟩
  obtain ⟨mid, hmid⟩ : ∃ t, s.extract k4 k60 = t := ⟨_, rfl⟩
  obtain ⟨one, hone⟩ : ∃ t, s.extract 4 k4 = t := ⟨_, rfl⟩
  obtain ⟨two, htwo⟩ : ∃ t, s.extract k60 s.size = t := ⟨_, rfl⟩
  rw [hP, hmid, hone] at hV1
  rw [hmid, htwo] at hV2
  have f1' := hid f1
  have f2' := hid f2
  clear f1 f2 hN hva hvb ha0 ha4 ha8 hb0 hR hNum
  go_enter Try.func26, Try.ntmps26
  by_cases h60 : pb.size = 60
  · have e1 : ((pb.size : Int) != 60) = false := by rw [h60]; rfl
    have q1 : (4 : Int) ≤ (pb.size : Int) := by omega
    have h60' := hid h60
    clear h60
    go_wp2_with fail
    refine (n0.out _).mono ?_
    rintro e W1 ⟨rfl, hb⟩
    have hB1 := hid hb
    clear hb
    by_cases h2 : a0 = 2
    · have e2 : (a0 != 2) = false := by rw [h2]; rfl
      have h2' := hid h2
      clear h2
      go_wp2_with fail
      refine (m0.out _).mono ?_
      rintro e W2 ⟨rfl, hb⟩
      have hB2 := hid (below_up hb hB1.out)
      clear hb hB1
      by_cases h1 : b0 = 1
      · have e3 : (b0 != 1) = false := by rw [h1]; rfl
        obtain ⟨hle, g1, g2⟩ := f2'.out h60'.out h2'.out h1
        have g1' := hid g1
        have g2' := hid g2
        clear h1 g1 g2
        go_wp2_with fail
        refine (n4.out _).mono ?_
        rintro e W3 ⟨rfl, hb⟩
        have hB3 := hid (below_up hb hB2.out)
        clear hb hB2
        go_wp2_with fail
        refine (n8.out _).mono ?_
        rintro e W4 ⟨rfl, hb⟩
        have hB4 := hid (below_up hb hB3.out)
        clear hb hB3
        go_wp2_with fail
        refine (hSz.out _).mono ?_
        rintro e w' ⟨rfl, hw⟩
        replace hw := hw.symm
        subst hw
        by_cases h0 : N = 0
        · have e4 : ((N : Int) == 0) = true := by rw [h0]; rfl
          go_wp2_with fail
          go_ret
          exact ⟨by rw [g1'.out (.inl h0)]; rfl, hB4.out⟩
        have e4 : ((N : Int) == 0) = false := by rw [beq_eq_false_iff_ne]; omega
        have u4 : 4 + (N : Int) = (k4 : Int) := by omega
        have w4 := IntWalk.i64_in (k4 : Int) (by omega)
        have u5 : (k4 : Int) + 56 = (k60 : Int) := by omega
        have u6 : 60 + (N : Int) = (k60 : Int) := by omega
        have w6 := IntWalk.i64_in (k60 : Int) (by omega)
        by_cases hs : s.size < k60
        · have e5 : decide ((s.size : Int) < (k60 : Int)) = true := decide_eq_true (by omega)
          have e6 : (s.size : Int) < (k60 : Int) := by omega
          go_wp2_with fail
          go_ret
          exact ⟨by rw [g1'.out (.inr (by omega))]; rfl, hB4.out⟩
        have e5 : decide ((s.size : Int) < (k60 : Int)) = false := decide_eq_false (by omega)
        have e6 : ¬ (s.size : Int) < (k60 : Int) := by omega
        have r1 : (k4 : Int) ≤ (k60 : Int) := by omega
        have r2 : (k60 : Int) ≤ (s.size : Int) := by omega
        have r3 : (k4 : Int) ≤ (s.size : Int) := by omega
        have r4 : (0 : Int) ≤ (k4 : Int) := by omega
        have r5 : (0 : Int) ≤ (k60 : Int) := by omega
        have r6 : (4 : Int) ≤ (k4 : Int) := by omega
        have r7 : (4 : Int) ≤ (s.size : Int) := by omega
        have hc := hid (g2'.out h0 (by omega))
        clear h0 hs hk4 hk60 g1' g2' hle
        go_wp2_with fail
        have hb : Below W4.heap.size W4 W4.drew := (Below.refl _ _).drew
        have hB5 := hid (below_up hb hB4.out)
        clear hb hB4
        refine wp_region_held_drew (S := fun V => True) (by kernel_rfl) (by exact trivial) (fun hHeld => ?_)
        generalize W4.drew = W5 at *
        refine tkx 0 (.string pb) hHeld ?_; simp only [ly, Act.put]
        refine tkx 1 (.string P) hHeld ?_; simp only [ly, Act.put]
        refine tkx 2 (.string mid) hHeld ?_; simp only [ly, Act.put]
        refine tkx 3 (.string s) hHeld ?_; simp only [ly, Act.put]
        refine tkx 4 (.int .i64 (N : Int)) hHeld ?_; simp only [ly, Act.put]
        refine tkx 5 (.int .i64 (k4 : Int)) hHeld ?_; simp only [ly, Act.put]
        refine tkx 6 (.string one) hHeld ?_; simp only [ly, Act.put]
        refine wpAnyH_ready (rs := [7]) (by kernel_rfl) (by simp) (AllReadyH.cons rfl (fun K hK => ?_) AllReadyH.nil)
        have hK' := hid hK
        clear hK
        rw [if_pos (by kernel_rfl)]
        simp only [ly1, ly2, ly3]
        go_simp
        refine (hV1.out _).mono ?_
        rintro e W6 ⟨rfl, hb⟩
        have hB6 := hid (below_up hb hB5.out)
        clear hb hB5
        refine hK'.out _ _ (by exact trivial) (fun hHeld => ?_)
        clear hK' K
        refine tkx 8 (.int .i64 va) hHeld ?_; simp only [ly, Act.put]
        refine wpAnyH_done (by kernel_rfl) ?_ _
        go_wp2_with fail
        refine (hV2.out _).mono ?_
        rintro e W7 ⟨rfl, hb⟩
        have hB7 := hid (below_up hb hB6.out)
        clear hb hB6
        rcases h3.out.1 with hz | hz | hz <;> rcases h3.out.2 with hy | hy | hy <;>
          (subst hz
           subst hy
           have hc' := hc.out
           simp only [comb] at hc'
           go_wp2_with fail
           go_ret
           exact ⟨by rw [hc']; rfl, hB7.out⟩)
      · have e3 : (b0 != 1) = true := bne_iff_ne.2 h1
        go_wp2_with fail
        go_ret
        exact ⟨by rw [f1'.out (fun h => h1 h.2.2)]; rfl, hB2.out⟩
    · have e2 : (a0 != 2) = true := bne_iff_ne.2 h2
      go_wp2_with fail
      go_ret
      exact ⟨by rw [f1'.out (fun h => h2 h.2.1)]; rfl, hB1.out⟩
  · have e1 : ((pb.size : Int) != 60) = true := by rw [bne_iff_ne]; omega
    go_wp2_with fail
    go_ret
    exact ⟨by rw [f1'.out (fun h => h60 h.1)]; rfl, Below.refl _ _⟩

set_option maxRecDepth 100000 in
set_option maxHeartbeats 1000000 in
theorem HssVerifies_law {w : World} (pb : ByteArray) (hpb : pb.size ≤ 140737488351232) (msg : ByteArray) (hm : msg.size ≤ 140737488351232) (s : ByteArray) (hs : s.size ≤ 140737488351232) :
    Calls Try.prog 8 #[.string pb, .string msg, .string s] w fun e w' => e = .returned (.bool true) ∧ Below w.heap.size w w' := by
  obtain ⟨a, ha⟩ : ∃ a, hVer pb msg s = a := ⟨_, rfl⟩
  have hV := hid (fun W => hVerify_any pb msg s hm hs W)
  have hR := hid (fun W => rHssVerify_any pb msg s hpb hs W)
  rw [ha] at hV hR
  clear ha hpb hm hs
  go_enter Try.func8, Try.ntmps8
  go_wp2_with fail
  refine (hV.out _).mono ?_
  rintro e W1 ⟨rfl, hb⟩
  have hB1 := hid hb
  clear hb
  go_wp2_with (first
    | (go_at_call 16; refine (errNum_any _ _).mono ?_; rintro e w' ⟨rfl, rfl⟩)
    | fail)
  refine (hR.out _).mono ?_
  rintro e W2 ⟨rfl, hb⟩
  have hB2 := hid (below_up hb hB1.out)
  clear hb hB1
  go_wp2_with fail
  refine (awake6_any _).mono ?_
  rintro e W3 ⟨rfl, hb⟩
  have hB3 := hid (below_up hb hB2.out)
  clear hb hB2
  go_wp2_with fail
  go_ret
  exact ⟨rfl, hB3.out⟩
end Go.Proofs.Ytmfajekfipfjpaa
