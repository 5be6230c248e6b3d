/- Layer 6, the program's side: a lower key's public key by a signature. -/
import Derived.Test.YtmfajekfipfjpaaGreatHsB
namespace Go.Proofs.YtmfajekfipfjpaaGreat
open Go.RowKit
open Go.Lib (strCells strCells_length strCells_oneCell)
attribute [local irreducible] Sha.compress Sha.blocks Sha.sha Sha.pad

/-- What follows a region, told once for all its orders. -/
def MidQ (R : Act → World → Prop) : Exit → Act → World → Prop
  | .normal, a, w => R a w
  | _, _, _ => False
theorem wp_region_mid {P : Program} {id : Nat} {ops : Array Oper} {b : Bool} {Q : Exit → Act → World → Prop} {a : Act} {w : World} (R : Act → Act → World → Prop)
    (h1 : (Code.region id ops b).wp P (MidQ (R a)) a w) (h2 : ∀ a' w', R a a' w' → Q .normal a' w') : (Code.region id ops b).wp P Q a w :=
  Code.wp_mono (fun e a' w' h => by cases e <;> first | exact h2 _ _ h | cases h) h1
def puts (a : Act) : List (Nat × Value) → Act
  | [] => a
  | (i, v) :: l => puts (a.put (some i) v) l

theorem cut_mid (s : ByteArray) (a b : Nat) : (s.extract a b).data.toList = (s.data.toList.drop a).take (b - a) := by
  simp only [ByteArray.data_extract, Array.toList_extract, List.extract_eq_take_drop]
/-- What a signature of a key's own comes to. -/
theorem sig_once (p : Ots.Par) (kd h q : Nat) (id seed msg : ByteArray) : ((sigT p kd h id seed q msg).extract 4 (40 + 32 * p.p)).data.toList = Ots.sign p kd (Ots.head id.data.toList q) seed.data.toList msg.data.toList := by
  obtain ⟨-, -, -, s4, -, -⟩ := Lms.sign_parts p kd h id.data.toList seed.data.toList q msg.data.toList
  rw [cut_mid, show 40 + 32 * p.p - 4 = 36 + 32 * p.p from by omega]
  exact s4
theorem sig_size (p : Ots.Par) (kd h q : Nat) (id seed msg : ByteArray) : (sigT p kd h id seed q msg).size = 44 + 32 * p.p + 32 * h := by
  have e := (Lms.sign_parts p kd h id.data.toList seed.data.toList q msg.data.toList).1
  rw [← data_length]
  exact e
theorem sig_root (p : Ots.Par) (kd h q : Nat) (id seed msg : ByteArray) (hq : q < 2 ^ h) : Lms.climb id.data.toList (Lms.cuts (((sigT p kd h id seed q msg).extract (44 + 32 * p.p) (sigT p kd h id seed q msg).size).data.toList) h) (2 ^ h + q) (Lms.leaf id.data.toList (2 ^ h + q) (Ots.pub p (Ots.head id.data.toList q) seed.data.toList)) = Lms.at_ id.data.toList (Lms.keys p id.data.toList seed.data.toList h) h 1 := by
  obtain ⟨-, -, -, -, -, s6⟩ := Lms.sign_parts p kd h id.data.toList seed.data.toList q msg.data.toList
  have e : Lms.leaf id.data.toList (2 ^ h + q) (Ots.pub p (Ots.head id.data.toList q) seed.data.toList) = Lms.node id.data.toList (Lms.keys p id.data.toList seed.data.toList h) 0 (2 ^ h + q) := by
    rw [Lms.node, Lms.keys, Nat.add_sub_cancel_left]
  have hd : (2 ^ h + q) / 2 ^ h = 1 := by
    rw [Nat.add_div_left _ (Nat.pow_pos (by decide)), Nat.div_eq_of_lt hq]
  rw [cut_front _ _ (by rw [sig_size]; omega)]
  rw [show (sigT p kd h id seed q msg).data.toList = Lms.signL p kd h id.data.toList seed.data.toList q msg.data.toList from txt_list _, s6, e, Lms.climb_path, hd, Nat.zero_add, Lms.at_root]

set_option maxRecDepth 100000 in
set_option maxHeartbeats 4000000 in
theorem hPublicBy_any (p : Ots.Par) (kd h q : Nat) (hpar : Ots.par (kd : Int) = some p) (h1 : 1 ≤ h) (h5 : h ≤ 5) (id seed : ByteArray) (hi16 : id.size = 16) (hq : q < 2 ^ h) (msg : ByteArray) (hm : msg.size ≤ 65536) (s : ByteArray) (hsg : sigT p kd h id seed q msg = s) (w : World) :
    Calls Tryz.prog 22 #[.agg #[.int .i64 (kd : Int), .int .i64 (h : Int), .string id, .string seed, .int .i64 (q : Int)], .string msg, .string s] w fun e w' => e = .returned (.tuple #[.string (pubT p kd h id seed), .int .i64 0]) ∧ Below w.heap.size w w' := by
  obtain ⟨kc, hkc⟩ : ∃ kc, keyC (kd : Int) (h : Int) id seed (q : Int) = kc := ⟨_, rfl⟩
  have hW0' := hid (show w.alloc (.cells #[.int .i64 (kd : Int), .int .i64 (h : Int), .string id, .string seed, .int .i64 (q : Int)] 39) = w.alloc (.cells kc.toArray 39) from by rw [← hkc]; rfl)
  obtain ⟨W0, hW0⟩ : ∃ W0, w.alloc (.cells kc.toArray 39) = W0 := ⟨_, rfl⟩
  have hK0 := hid (show Holds W0 w.heap.size 39 kc from by rw [← hW0]; exact Holds.new _ _ kc.toArray)
  have hB0 := hid (show Below w.heap.size w W0 from by rw [← hW0]; exact (Below.refl _ _).alloc (Nat.le_refl _) _)
  rw [hW0] at hW0'
  have k0 := hid (show kc[0]? = some (.int .i64 (kd : Int)) from by rw [← hkc]; rfl)
  have k1 := hid (show kc[1]? = some (.int .i64 (h : Int)) from by rw [← hkc]; rfl)
  have k2 := hid (show kc[2]? = some (.string id) from by rw [← hkc]; rfl)
  have k4 := hid (show kc[4]? = some (.int .i64 (q : Int)) from by rw [← hkc]; rfl)
  have hp67 := par_p hpar
  have hkd : kd ≤ 4 := by rcases Ots.par_kind hpar with ⟨e, _⟩ | ⟨e, _⟩ <;> omega
  have hOt := hid (fun W => show Calls Tryz.prog 27 #[.int .i64 (kd : Int)] W fun e w' => e = .returned (.tuple #[.agg (parC p), .bool true]) ∧ Below W.heap.size W w' from by
    have hc := OtsOf_any (kd : Int) W
    unfold parAns at hc
    rw [hpar] at hc
    exact hc)
  have hLn := hid (fun W => Length_any p (by omega) W)
  have h1c : (parC p).all (·.oneCell') = true := by simp [parC, Value.oneCell']
  have hocz := hid (show (parC p).size = 3 from rfl)
  have hocs := hid (show (Tryz.prog.info? 54).map (·.size) = some (parC p).toList.length from Tryz.sizeOts)
  obtain ⟨oc, hoc⟩ : ∃ c, parC p = c := ⟨_, rfl⟩
  rw [hoc] at hOt hLn h1c hocz hocs
  obtain ⟨m1, hm1⟩ : ∃ m, 36 + 32 * p.p = m := ⟨_, rfl⟩
  rw [hm1] at hLn
  obtain ⟨E, hE⟩ : ∃ m, 40 + 32 * p.p = m := ⟨_, rfl⟩
  have hEm : 4 + (m1 : Int) = (E : Int) := by omega
  have hEw : IntKind.i64.wrap (E : Int) = (E : Int) := IntWalk.i64_in _ (by omega)
  have hss : s.size = E + 4 + 32 * h := by rw [← hsg, sig_size]; omega
  obtain ⟨once, honce⟩ : ∃ t, s.extract 4 E = t := ⟨_, rfl⟩
  have hol : once.data.toList = Ots.sign p kd (Ots.head id.data.toList q) seed.data.toList msg.data.toList := by rw [← honce, ← hE, ← hsg]; exact sig_once p kd h q id seed msg
  have hos : once.size = 36 + 32 * p.p := by rw [← data_length, hol]; exact Ots.sign_len Ots.sha32 _ _ _ _ _
  have hq32 : q < 32 := Nat.lt_of_lt_of_le hq (Nat.le_trans (Nat.pow_le_pow_right (by decide) h5) (by decide))
  obtain ⟨y, hy⟩ : ∃ y, Ots.pub p (Ots.head id.data.toList q) seed.data.toList = y := ⟨_, rfl⟩
  have hy32 : y.length = 32 := by rw [← hy]; exact Lms.pub_len _ _ _
  have hCy := hid (hash_cells y hy32)
  have hCd := hid (fun W => show Calls Tryz.prog 42 #[.string id, .int .i64 (q : Int), .string msg, .string once] W fun e w' => e = .returned (.tuple #[.agg (byteCells y).toArray, .int .i64 0]) ∧ Below W.heap.size W w' from by
    have hg : candGood (q : Int) id msg once = some p := by
      unfold candGood
      rw [if_neg (by omega), hol, Ots.sign_kind, numL_be 4 kd (by omega), hpar]
      simp only
      exact if_pos ⟨hos, by unfold Ots.may; rw [decide_eq_true ⟨hi16, by omega, by omega⟩], hm⟩
    have hc := Candidate_good (q : Int) id msg once p hg W
    rw [Int.toNat_natCast, hol, Ots.cand_sign Ots.sha32, hy] at hc
    exact hc)
  obtain ⟨R, hR⟩ : ∃ R, 2 ^ h + q = R := ⟨_, rfl⟩
  have hRw : IntKind.i64.wrap (R : Int) = (R : Int) := IntWalk.i64_in _ (by have := Nat.pow_le_pow_right (show 0 < 2 by decide) h5; omega)
  obtain ⟨Z, hZ⟩ : ∃ Z : Int, ((2 ^ h : Nat) : Int) = Z := ⟨_, rfl⟩
  have hZw : IntKind.i64.wrap (2 ^ h) = Z := (shl_wrap h h5).trans hZ
  have hm64 : min h 64 = h := by omega
  have hZR : Z + (q : Int) = (R : Int) := by omega
  have hLf := hid (fun W => wayLeaf_any id R y W (by omega) hy32)
  obtain ⟨lf, hlf⟩ : ∃ x, Lms.leaf id.data.toList R y = x := ⟨_, rfl⟩
  rw [hlf] at hLf
  have hlf32 : lf.length = 32 := by rw [← hlf]; exact Lms.leaf_len _ _ _
  obtain ⟨E4, hE4⟩ : ∃ x, E + 4 = x := ⟨_, rfl⟩
  have hE4w : IntKind.i64.wrap ((E : Int) + 4) = (E4 : Int) := by rw [IntWalk.i64_in _ (by omega)]; omega
  obtain ⟨rest, hrest⟩ : ∃ t, s.extract E4 s.size = t := ⟨_, rfl⟩
  have hrs : rest.size = 32 * h := by rw [← hrest, cut_front_size _ _ (by omega)]; omega
  have hpw : 2 ^ (h + 1) = 2 * 2 ^ h := by rw [Nat.pow_succ, Nat.mul_comm]
  have hRo := hid (fun W => wayRoot_any id R h lf rest W (by omega) hlf32 (by omega) (by omega) (by omega) hrs)
  obtain ⟨rx, hrx⟩ : ∃ x, Lms.at_ id.data.toList (Lms.keys p id.data.toList seed.data.toList h) h 1 = x := ⟨_, rfl⟩
  have hcl : Lms.climb id.data.toList (Lms.cuts rest.data.toList h) R lf = rx := by
    rw [← hrest, ← hlf, ← hy, ← hR, ← hrx, show E4 = 44 + 32 * p.p from by omega, ← hsg]
    exact sig_root p kd h q id seed msg hq
  rw [hcl] at hRo
  have hrx32 : rx.length = 32 := by rw [← hrx]; exact Lms.at_len _ _ _ _
  have hCx := hid (hash_cells rx hrx32)
  have hans := hid (pubT_eq p kd h id seed rx hrx)
  unfold hv at hLf hRo
  have hvx := hid (fun W g hh => hv_text rx hrx32 W g hh)
  obtain ⟨tx, htx⟩ : ∃ t, txt rx = t := ⟨_, rfl⟩
  have stx : tx.size = 32 := by rw [← htx, txt_size]; exact hrx32
  rw [htx] at hvx hans
  have hTy := hid (fun W => TypeOf_any h (by omega) W)
  have hut := hid (fun W => U32_any (Lms.typ h) W)
  have huk := hid (fun W => U32_any kd W)
  obtain ⟨th, hth⟩ : ∃ x, Lms.typ h = x := ⟨_, rfl⟩
  rw [hth] at hTy hut hans
  obtain ⟨bt, hbt⟩ : ∃ b, be 4 th = b := ⟨_, rfl⟩
  obtain ⟨bk, hbk⟩ : ∃ b, be 4 kd = b := ⟨_, rfl⟩
  have sbt : bt.size = 4 := by rw [← hbt, be_size]
  have sbk : bk.size = 4 := by rw [← hbk, be_size]
  rw [hbt] at hut hans
  rw [hbk] at huk hans
  have z1 : bt.size + bk.size ≤ 9223372036854775807 := by omega
  have z2 : bt.size + bk.size + id.size ≤ 9223372036854775807 := by omega
  have z3 : bt.size + bk.size + id.size + tx.size ≤ 9223372036854775807 := by omega
  have b1 : (4 : Int) ≤ (E : Int) := by omega
  have b2 : (E : Int) ≤ (s.size : Int) := by omega
  have b3 : (E4 : Int) ≤ (s.size : Int) := by omega
  have b4 : (0 : Int) ≤ (E4 : Int) := by omega
  clear hW0 hkc hpar hp67 hkd hoc hm1 hE hss hsg hol hos hq32 hy hy32 hR hZ hlf hlf32 hE4 hrs hpw hrx hcl hrx32 htx stx hth hbt hbk sbt sbk hi16 hq hm h1
  go_enter Tryz.func22, Tryz.ntmps22
  have c0 := hK0.out.c 0 _ k0.out
  go_wp2_with (first
    | ((with_reducible refine at_slot (some 3) ?_); refine wpList_run rfl (.pointer (some ⟨w.heap.size, 0, none⟩)) (w.alloc (.cells #[.int .i64 (kd : Int), .int .i64 (h : Int), .string id, .string seed, .int .i64 (q : Int)] 39)) (by kernel_rfl) ?_; rw [hW0'.out])
    | fail)
  refine (hOt.out _).mono ?_
  rintro e W1 ⟨rfl, hb⟩
  have hK1 := zon hb hK0
  have hB1 := zup hb hB0
  clear hb hK0 hB0 c0
  try (rename_i hKK; refine hKK _ _ ?_; clear hKK)
  have hthere := par_there W1 oc hocz.out
  have hcz := par_size oc hocz.out
  go_wp2_with (first
    | ((with_reducible refine at_slot (some 8) ?_); refine wpList_run rfl (.pointer (some ⟨W1.heap.size, 0, none⟩)) (W1.alloc (.cells noC 54)) (by kernel_rfl) ?_)
    | ((with_reducible refine at_slot none ?_); refine wpList_store_mid rfl 54 (.tmp 8) (.tmp 19) rfl W1.heap.size 0 oc rfl rfl (by exact hthere) (by exact hcz) (by exact h1c) ?_; generalize hW7 : World.setCells _ _ _ _ = W2; have hP7 := par_new oc hocz.out hW7; have hK2 := hid (hK1.out.below hP7.2 hK1.out.lt); have hB2 := hid (below_up hP7.2 hB1.out); have hO2 := hid hP7.1; clear hP7 hW7 hthere hcz)
    | ((with_reducible refine at_slot (some 21) ?_); refine wpList_load_mid rfl 54 (.tmp 8) rfl W1.heap.size 0 rfl oc.toList _ (by exact h_all hO2.out) Tryz.underlying54 rfl (by exact hocs.out) ?_)
    | fail)
  refine (hLn.out _).mono ?_
  rintro e W3 ⟨rfl, hb⟩
  have hK3 := zon hb hK2
  have hB3 := zup hb hB2
  clear hb hK2 hB2 hK1 hB1 hO2
  go_wp2_with fail
  refine wp_region_mid (fun a a' W' => ∃ g : Nat, a' = puts a [(25, .pointer (some ⟨w.heap.size, 2, none⟩)), (26, .string id), (27, .pointer (some ⟨w.heap.size, 4, none⟩)), (28, .int .i64 (q : Int)), (29, .string msg), (30, .string s), (31, .int .i64 (E : Int)), (32, .string once), (33, .tuple #[.agg (byteCells y).toArray, .int .i64 0]), (24, .tuple #[.agg (byteCells y).toArray, .int .i64 0]), (34, .agg (byteCells y).toArray), (35, .int .i64 0), (11, .pointer (some ⟨g, 0, none⟩)), (12, .int .i64 0)] ∧ Holds W' w.heap.size 39 kc ∧ Holds W' g 60 (byteCells y) ∧ Below w.heap.size w W' ∧ w.heap.size < g) ?_ ?_
  · skip
    have hb : Below W3.heap.size W3 W3.drew := (Below.refl _ _).drew
    have hK4 := zon hb hK3
    have hB4 := zup hb hB3
    clear hb hK3 hB3
    refine wp_region_held_drew (S := fun V => Holds V w.heap.size 39 kc) (by kernel_rfl) (by exact hK4.out) (fun zH => ?_)
    generalize W3.drew = W4 at *
    refine tkx 0 (.pointer (some ⟨w.heap.size, 2, none⟩)) zH ?_; simp only [lp]
    refine tkx 1 (.string id) zH ?_ (hy := .inl ⟨by kernel_rfl, fun V hS => by have c2 := hS.c 2 _ k2.out; go_simp⟩); simp only [lp]
    refine tkx 2 (.pointer (some ⟨w.heap.size, 4, none⟩)) zH ?_; simp only [lp]
    refine tkx 3 (.int .i64 (q : Int)) zH ?_ (hy := .inl ⟨by kernel_rfl, fun V hS => by have c4 := hS.c 4 _ k4.out; go_simp⟩); simp only [lp]
    refine tkx 4 (.string msg) zH ?_; simp only [lp]
    refine tkx 5 (.string s) zH ?_; simp only [lp]
    refine tkx 6 (.int .i64 (E : Int)) zH ?_; simp only [lp]
    refine tkx 7 (.string once) zH ?_; simp only [lp]
    refine wpAnyH_ready (rs := [8, 12]) (by kernel_rfl) (by simp) (AllReadyH.cons rfl (fun K hK => ?_) (AllReadyH.cons rfl (fun K hK => ?_) AllReadyH.nil))
    · skip
      have hK' := hid hK
      clear hK
      rw [if_pos (by kernel_rfl)]
      simp only [ly1, ly2, ly3]
      go_simp
      refine (hCd.out _).mono ?_
      rintro e W5 ⟨rfl, hb⟩
      have hK5 := zon hb hK4
      have hB5 := zup hb hB4
      clear hb hK4 hB4
      skip
      refine hK'.out _ _ (by exact hK5.out) (fun zH => ?_)
      clear hK' K
      refine tkx 9 (.tuple #[.agg (byteCells y).toArray, .int .i64 0]) zH ?_; simp only [lp]
      refine tkx 10 (.agg (byteCells y).toArray) zH ?_; simp only [lp]
      refine tkx 11 (.int .i64 0) zH ?_; simp only [lp]
      refine wpAnyH_ready (rs := [12]) (by kernel_rfl) (by simp) (AllReadyH.cons rfl (fun K hK => ?_) AllReadyH.nil)
      have hK' := hid hK
      clear hK
      rw [if_pos (by kernel_rfl)]
      simp only [ly1, ly2, ly3]
      obtain ⟨g11, hg11⟩ : ∃ g, W5.heap.size = g := ⟨_, rfl⟩
      try rw [hg11] at hg11y
      refine wp_run (.pointer (some ⟨g11, 0, none⟩)) (W5.alloc (.cells z32 60)) (by rw [← hg11]; kernel_rfl) ?_
      have hb := (Below.refl W5.heap.size W5).alloc (Nat.le_refl _) (.cells z32 60)
      have hN : Holds (W5.alloc (.cells z32 60)) g11 60 z32.toList := by rw [← hg11]; exact Holds.new _ _ _
      have hg11x := hid (show w.heap.size < g11 from by rw [← hg11]; exact hK5.out.lt)
      generalize W5.alloc (.cells z32 60) = W6 at *
      have hK6 := zon hb hK5
      have hB6 := zup hb hB5
      have hX6 := hid hN
      clear hb hK5 hB5 hN hg11
      refine hK'.out _ _ (by exact hK6.out) (fun zH => ?_)
      clear hK' K
      refine wpAnyH_ready (rs := [13]) (by kernel_rfl) (by simp) (AllReadyH.cons rfl (fun K hK => ?_) AllReadyH.nil)
      have hK' := hid hK
      clear hK
      rw [if_pos (by kernel_rfl)]
      simp only [ly1, ly2, ly3]
      refine wp_store_mid _ _ _ rfl g11 0 (byteCells y).toArray rfl rfl (by exact hCy.out.there' hX6.out rfl) (by exact hCy.out.size) (by exact hCy.out.one) ?_
      generalize hXx : World.setCells _ _ _ _ = W7
      have hX7 := hid (Holds.over (cs := byteCells y) hX6.out (by rw [hCy.out.len]; rfl) hXx)
      have hK7 := hid (holds_far hK6.out (by first | (have := hg11x.out; omega) | (have := hg11y.out; omega)) hXx)
      have hB7 := hid (below_put hB6.out (by have := hg11x.out; omega) hXx)
      clear hXx hK6 hB6 hX6
      refine hK'.out _ _ (by exact hK7.out) (fun zH => ?_)
      clear hK' K
      refine tkx 14 (.int .i64 0) zH ?_; simp only [lp]
      refine wpAnyH_done (by kernel_rfl) ?_ _
      exact ⟨g11, by simp only [puts, ly, Act.put], hK7.out, hX7.out, hB7.out, hg11x.out⟩
    · skip
      have hK' := hid hK
      clear hK
      rw [if_pos (by kernel_rfl)]
      simp only [ly1, ly2, ly3]
      obtain ⟨g11, hg11⟩ : ∃ g, W4.heap.size = g := ⟨_, rfl⟩
      try rw [hg11] at hg11y
      refine wp_run (.pointer (some ⟨g11, 0, none⟩)) (W4.alloc (.cells z32 60)) (by rw [← hg11]; kernel_rfl) ?_
      have hb := (Below.refl W4.heap.size W4).alloc (Nat.le_refl _) (.cells z32 60)
      have hN : Holds (W4.alloc (.cells z32 60)) g11 60 z32.toList := by rw [← hg11]; exact Holds.new _ _ _
      have hg11x := hid (show w.heap.size < g11 from by rw [← hg11]; exact hK4.out.lt)
      generalize W4.alloc (.cells z32 60) = W5 at *
      have hK5 := zon hb hK4
      have hB5 := zup hb hB4
      have hX5 := hid hN
      clear hb hK4 hB4 hN hg11
      refine hK'.out _ _ (by exact hK5.out) (fun zH => ?_)
      clear hK' K
      refine wpAnyH_ready (rs := [8]) (by kernel_rfl) (by simp) (AllReadyH.cons rfl (fun K hK => ?_) AllReadyH.nil)
      have hK' := hid hK
      clear hK
      rw [if_pos (by kernel_rfl)]
      simp only [ly1, ly2, ly3]
      go_simp
      refine (hCd.out _).mono ?_
      rintro e W6 ⟨rfl, hb⟩
      have hK6 := zon hb hK5
      have hB6 := zup hb hB5
      have hX6 := zon hb hX5
      clear hb hK5 hB5 hX5
      skip
      refine hK'.out _ _ (by exact hK6.out) (fun zH => ?_)
      clear hK' K
      refine tkx 9 (.tuple #[.agg (byteCells y).toArray, .int .i64 0]) zH ?_; simp only [lp]
      refine tkx 10 (.agg (byteCells y).toArray) zH ?_; simp only [lp]
      refine tkx 11 (.int .i64 0) zH ?_; simp only [lp]
      refine wpAnyH_ready (rs := [13]) (by kernel_rfl) (by simp) (AllReadyH.cons rfl (fun K hK => ?_) AllReadyH.nil)
      have hK' := hid hK
      clear hK
      rw [if_pos (by kernel_rfl)]
      simp only [ly1, ly2, ly3]
      refine wp_store_mid _ _ _ rfl g11 0 (byteCells y).toArray rfl rfl (by exact hCy.out.there' hX6.out rfl) (by exact hCy.out.size) (by exact hCy.out.one) ?_
      generalize hXx : World.setCells _ _ _ _ = W7
      have hX7 := hid (Holds.over (cs := byteCells y) hX6.out (by rw [hCy.out.len]; rfl) hXx)
      have hK7 := hid (holds_far hK6.out (by first | (have := hg11x.out; omega) | (have := hg11y.out; omega)) hXx)
      have hB7 := hid (below_put hB6.out (by have := hg11x.out; omega) hXx)
      clear hXx hK6 hB6 hX6
      refine hK'.out _ _ (by exact hK7.out) (fun zH => ?_)
      clear hK' K
      refine tkx 14 (.int .i64 0) zH ?_; simp only [lp]
      refine wpAnyH_done (by kernel_rfl) ?_ _
      exact ⟨g11, by simp only [puts, ly, Act.put], hK7.out, hX7.out, hB7.out, hg11x.out⟩
  clear hK3 hB3
  rintro a' W23 ⟨g11, rfl, hk, hx, hb, hgl⟩
  have hK23 := hid hk
  have hX23 := hid hx
  have hB23 := hid hb
  have hg11x := hid hgl
  clear hk hx hb hgl
  simp only [puts, ly, Act.put]
  go_wp2_with fail
  have hb : Below W23.heap.size W23 W23.drew := (Below.refl _ _).drew
  have hK24 := zon hb hK23
  have hB24 := zup hb hB23
  have hX24 := zon hb hX23
  clear hb hK23 hB23 hX23
  refine wp_region_held_drew (S := fun V => Holds V w.heap.size 39 kc) (by kernel_rfl) (by exact hK24.out) (fun zH => ?_)
  generalize W23.drew = W24 at *
  refine tkx 0 (.pointer (some ⟨w.heap.size, 1, none⟩)) zH ?_; simp only [lp]
  refine tkx 1 (.int .i64 (h : Int)) zH ?_ (hy := .inl ⟨by kernel_rfl, fun V hS => by have c1 := hS.c 1 _ k1.out; go_simp⟩); simp only [lp]
  refine tkx 2 (.int .i64 Z) zH ?_; simp only [lp]
  refine tkx 3 (.pointer (some ⟨w.heap.size, 4, none⟩)) zH ?_; simp only [lp]
  refine tkx 4 (.int .i64 (q : Int)) zH ?_ (hy := .inl ⟨by kernel_rfl, fun V hS => by have c4 := hS.c 4 _ k4.out; go_simp⟩); simp only [lp]
  refine tkx 5 (.int .i64 (R : Int)) zH ?_; simp only [lp]
  refine tkx 6 (.int .i64 (R : Int)) zH ?_; simp only [lp]
  refine wpAnyH_done (by kernel_rfl) ?_ _
  go_wp2_with fail
  skip
  refine wp_region_mid (fun a a' W' => ∃ g : Nat, a' = puts a [(45, .pointer (some ⟨w.heap.size, 2, none⟩)), (46, .string id), (47, .int .i64 (R : Int)), (48, .pointer (some ⟨w.heap.size, 2, none⟩)), (49, .string id), (50, .int .i64 (R : Int)), (51, .agg (byteCells y).toArray), (52, .agg (byteCells lf).toArray), (53, .string s), (54, .int .i64 (E : Int)), (55, .int .i64 (E4 : Int)), (56, .string rest), (57, .agg (byteCells rx).toArray), (14, .pointer (some ⟨g, 0, none⟩))] ∧ Holds W' w.heap.size 39 kc ∧ Holds W' g 60 (byteCells rx) ∧ Below w.heap.size w W' ∧ w.heap.size < g) ?_ ?_
  · skip
    have hb : Below W24.heap.size W24 W24.drew := (Below.refl _ _).drew
    have hK25 := zon hb hK24
    have hB25 := zup hb hB24
    have hX25 := zon hb hX24
    clear hb hK24 hB24 hX24
    refine wp_region_held_drew (S := fun V => Holds V w.heap.size 39 kc ∧ Holds V g11 60 (byteCells y)) (by kernel_rfl) (by exact ⟨hK25.out, hX25.out⟩) (fun zH => ?_)
    generalize W24.drew = W25 at *
    refine tkx 0 (.pointer (some ⟨w.heap.size, 2, none⟩)) zH ?_; simp only [lp]
    refine tkx 1 (.string id) zH ?_ (hy := .inl ⟨by kernel_rfl, fun V hS => by have c2 := hS.1.c 2 _ k2.out; go_simp⟩); simp only [lp]
    refine tkx 2 (.int .i64 (R : Int)) zH ?_; simp only [lp]
    refine tkx 3 (.pointer (some ⟨w.heap.size, 2, none⟩)) zH ?_; simp only [lp]
    refine tkx 4 (.string id) zH ?_ (hy := .inl ⟨by kernel_rfl, fun V hS => by have c2 := hS.1.c 2 _ k2.out; go_simp⟩); simp only [lp]
    refine tkx 5 (.int .i64 (R : Int)) zH ?_; simp only [lp]
    refine tkx 6 (.agg (byteCells y).toArray) zH ?_ (hy := yieldsIf_load_mid (by kernel_rfl) _ _ rfl _ _ rfl _ _ (fun V hS => h_all hS.2) Tryz.underlying60 rfl (by exact hCy.out.size')); simp only [lp]
    refine tkx 8 (.string s) zH ?_; simp only [lp]
    refine tkx 9 (.int .i64 (E : Int)) zH ?_; simp only [lp]
    refine tkx 10 (.int .i64 (E4 : Int)) zH ?_; simp only [lp]
    refine tkx 11 (.string rest) zH ?_; simp only [lp]
    refine wpAnyH_ready (rs := [7, 13]) (by kernel_rfl) (by simp) (AllReadyH.cons rfl (fun K hK => ?_) (AllReadyH.cons rfl (fun K hK => ?_) AllReadyH.nil))
    · skip
      have hK' := hid hK
      clear hK
      rw [if_pos (by kernel_rfl)]
      simp only [ly1, ly2, ly3]
      go_simp
      refine (hLf.out _).mono ?_
      rintro e W26 ⟨rfl, hb⟩
      have hK26 := zon hb hK25
      have hB26 := zup hb hB25
      have hX26 := zon hb hX25
      clear hb hK25 hB25 hX25
      refine hK'.out _ _ (by exact ⟨hK26.out, hX26.out⟩) (fun zH => ?_)
      clear hK' K
      refine wpAnyH_ready (rs := [12, 13]) (by kernel_rfl) (by simp) (AllReadyH.cons rfl (fun K hK => ?_) (AllReadyH.cons rfl (fun K hK => ?_) AllReadyH.nil))
      · skip
        have hK' := hid hK
        clear hK
        rw [if_pos (by kernel_rfl)]
        simp only [ly1, ly2, ly3]
        go_simp
        refine (hRo.out _).mono ?_
        rintro e W27 ⟨rfl, hb⟩
        have hK27 := zon hb hK26
        have hB27 := zup hb hB26
        have hX27 := zon hb hX26
        clear hb hK26 hB26 hX26
        refine hK'.out _ _ (by exact ⟨hK27.out, hX27.out⟩) (fun zH => ?_)
        clear hK' K
        refine wpAnyH_ready (rs := [13]) (by kernel_rfl) (by simp) (AllReadyH.cons rfl (fun K hK => ?_) AllReadyH.nil)
        have hK' := hid hK
        clear hK
        rw [if_pos (by kernel_rfl)]
        simp only [ly1, ly2, ly3]
        have hg14y := hid (show g11 < W27.heap.size from hX27.out.lt)
        obtain ⟨g14, hg14⟩ : ∃ g, W27.heap.size = g := ⟨_, rfl⟩
        try rw [hg14] at hg14y
        refine wp_run (.pointer (some ⟨g14, 0, none⟩)) (W27.alloc (.cells z32 60)) (by rw [← hg14]; kernel_rfl) ?_
        have hb := (Below.refl W27.heap.size W27).alloc (Nat.le_refl _) (.cells z32 60)
        have hN : Holds (W27.alloc (.cells z32 60)) g14 60 z32.toList := by rw [← hg14]; exact Holds.new _ _ _
        have hg14x := hid (show w.heap.size < g14 from by rw [← hg14]; exact hK27.out.lt)
        generalize W27.alloc (.cells z32 60) = W28 at *
        have hK28 := zon hb hK27
        have hB28 := zup hb hB27
        have hX28 := zon hb hX27
        have hY28 := hid hN
        clear hb hK27 hB27 hX27 hN hg14
        refine hK'.out _ _ (by exact ⟨hK28.out, hX28.out⟩) (fun zH => ?_)
        clear hK' K
        refine wpAnyH_ready (rs := [14]) (by kernel_rfl) (by simp) (AllReadyH.cons rfl (fun K hK => ?_) AllReadyH.nil)
        have hK' := hid hK
        clear hK
        rw [if_pos (by kernel_rfl)]
        simp only [ly1, ly2, ly3]
        refine wp_store_mid _ _ _ rfl g14 0 (byteCells rx).toArray rfl rfl (by exact hCx.out.there' hY28.out rfl) (by exact hCx.out.size) (by exact hCx.out.one) ?_
        generalize hXx : World.setCells _ _ _ _ = W29
        have hY29 := hid (Holds.over (cs := byteCells rx) hY28.out (by rw [hCx.out.len]; rfl) hXx)
        have hK29 := hid (holds_far hK28.out (by first | (have := hg14x.out; omega) | (have := hg14y.out; omega)) hXx)
        have hB29 := hid (below_put hB28.out (by have := hg14x.out; omega) hXx)
        have hX29 := hid (holds_far hX28.out (by first | (have := hg14x.out; omega) | (have := hg14y.out; omega)) hXx)
        clear hXx hK28 hB28 hX28 hY28
        refine hK'.out _ _ (by exact ⟨hK29.out, hX29.out⟩) (fun zH => ?_)
        clear hK' K
        refine wpAnyH_done (by kernel_rfl) ?_ _
        exact ⟨g14, by simp only [puts, ly, Act.put], hK29.out, hY29.out, hB29.out, hg14x.out⟩
      · skip
        have hK' := hid hK
        clear hK
        rw [if_pos (by kernel_rfl)]
        simp only [ly1, ly2, ly3]
        have hg14y := hid (show g11 < W26.heap.size from hX26.out.lt)
        obtain ⟨g14, hg14⟩ : ∃ g, W26.heap.size = g := ⟨_, rfl⟩
        try rw [hg14] at hg14y
        refine wp_run (.pointer (some ⟨g14, 0, none⟩)) (W26.alloc (.cells z32 60)) (by rw [← hg14]; kernel_rfl) ?_
        have hb := (Below.refl W26.heap.size W26).alloc (Nat.le_refl _) (.cells z32 60)
        have hN : Holds (W26.alloc (.cells z32 60)) g14 60 z32.toList := by rw [← hg14]; exact Holds.new _ _ _
        have hg14x := hid (show w.heap.size < g14 from by rw [← hg14]; exact hK26.out.lt)
        generalize W26.alloc (.cells z32 60) = W27 at *
        have hK27 := zon hb hK26
        have hB27 := zup hb hB26
        have hX27 := zon hb hX26
        have hY27 := hid hN
        clear hb hK26 hB26 hX26 hN hg14
        refine hK'.out _ _ (by exact ⟨hK27.out, hX27.out⟩) (fun zH => ?_)
        clear hK' K
        refine wpAnyH_ready (rs := [12]) (by kernel_rfl) (by simp) (AllReadyH.cons rfl (fun K hK => ?_) AllReadyH.nil)
        have hK' := hid hK
        clear hK
        rw [if_pos (by kernel_rfl)]
        simp only [ly1, ly2, ly3]
        go_simp
        refine (hRo.out _).mono ?_
        rintro e W28 ⟨rfl, hb⟩
        have hK28 := zon hb hK27
        have hB28 := zup hb hB27
        have hX28 := zon hb hX27
        have hY28 := zon hb hY27
        clear hb hK27 hB27 hX27 hY27
        refine hK'.out _ _ (by exact ⟨hK28.out, hX28.out⟩) (fun zH => ?_)
        clear hK' K
        refine wpAnyH_ready (rs := [14]) (by kernel_rfl) (by simp) (AllReadyH.cons rfl (fun K hK => ?_) AllReadyH.nil)
        have hK' := hid hK
        clear hK
        rw [if_pos (by kernel_rfl)]
        simp only [ly1, ly2, ly3]
        refine wp_store_mid _ _ _ rfl g14 0 (byteCells rx).toArray rfl rfl (by exact hCx.out.there' hY28.out rfl) (by exact hCx.out.size) (by exact hCx.out.one) ?_
        generalize hXx : World.setCells _ _ _ _ = W29
        have hY29 := hid (Holds.over (cs := byteCells rx) hY28.out (by rw [hCx.out.len]; rfl) hXx)
        have hK29 := hid (holds_far hK28.out (by first | (have := hg14x.out; omega) | (have := hg14y.out; omega)) hXx)
        have hB29 := hid (below_put hB28.out (by have := hg14x.out; omega) hXx)
        have hX29 := hid (holds_far hX28.out (by first | (have := hg14x.out; omega) | (have := hg14y.out; omega)) hXx)
        clear hXx hK28 hB28 hX28 hY28
        refine hK'.out _ _ (by exact ⟨hK29.out, hX29.out⟩) (fun zH => ?_)
        clear hK' K
        refine wpAnyH_done (by kernel_rfl) ?_ _
        exact ⟨g14, by simp only [puts, ly, Act.put], hK29.out, hY29.out, hB29.out, hg14x.out⟩
    · skip
      have hK' := hid hK
      clear hK
      rw [if_pos (by kernel_rfl)]
      simp only [ly1, ly2, ly3]
      have hg14y := hid (show g11 < W25.heap.size from hX25.out.lt)
      obtain ⟨g14, hg14⟩ : ∃ g, W25.heap.size = g := ⟨_, rfl⟩
      try rw [hg14] at hg14y
      refine wp_run (.pointer (some ⟨g14, 0, none⟩)) (W25.alloc (.cells z32 60)) (by rw [← hg14]; kernel_rfl) ?_
      have hb := (Below.refl W25.heap.size W25).alloc (Nat.le_refl _) (.cells z32 60)
      have hN : Holds (W25.alloc (.cells z32 60)) g14 60 z32.toList := by rw [← hg14]; exact Holds.new _ _ _
      have hg14x := hid (show w.heap.size < g14 from by rw [← hg14]; exact hK25.out.lt)
      generalize W25.alloc (.cells z32 60) = W26 at *
      have hK26 := zon hb hK25
      have hB26 := zup hb hB25
      have hX26 := zon hb hX25
      have hY26 := hid hN
      clear hb hK25 hB25 hX25 hN hg14
      refine hK'.out _ _ (by exact ⟨hK26.out, hX26.out⟩) (fun zH => ?_)
      clear hK' K
      refine wpAnyH_ready (rs := [7]) (by kernel_rfl) (by simp) (AllReadyH.cons rfl (fun K hK => ?_) AllReadyH.nil)
      have hK' := hid hK
      clear hK
      rw [if_pos (by kernel_rfl)]
      simp only [ly1, ly2, ly3]
      go_simp
      refine (hLf.out _).mono ?_
      rintro e W27 ⟨rfl, hb⟩
      have hK27 := zon hb hK26
      have hB27 := zup hb hB26
      have hX27 := zon hb hX26
      have hY27 := zon hb hY26
      clear hb hK26 hB26 hX26 hY26
      refine hK'.out _ _ (by exact ⟨hK27.out, hX27.out⟩) (fun zH => ?_)
      clear hK' K
      refine wpAnyH_ready (rs := [12]) (by kernel_rfl) (by simp) (AllReadyH.cons rfl (fun K hK => ?_) AllReadyH.nil)
      have hK' := hid hK
      clear hK
      rw [if_pos (by kernel_rfl)]
      simp only [ly1, ly2, ly3]
      go_simp
      refine (hRo.out _).mono ?_
      rintro e W28 ⟨rfl, hb⟩
      have hK28 := zon hb hK27
      have hB28 := zup hb hB27
      have hX28 := zon hb hX27
      have hY28 := zon hb hY27
      clear hb hK27 hB27 hX27 hY27
      refine hK'.out _ _ (by exact ⟨hK28.out, hX28.out⟩) (fun zH => ?_)
      clear hK' K
      refine wpAnyH_ready (rs := [14]) (by kernel_rfl) (by simp) (AllReadyH.cons rfl (fun K hK => ?_) AllReadyH.nil)
      have hK' := hid hK
      clear hK
      rw [if_pos (by kernel_rfl)]
      simp only [ly1, ly2, ly3]
      refine wp_store_mid _ _ _ rfl g14 0 (byteCells rx).toArray rfl rfl (by exact hCx.out.there' hY28.out rfl) (by exact hCx.out.size) (by exact hCx.out.one) ?_
      generalize hXx : World.setCells _ _ _ _ = W29
      have hY29 := hid (Holds.over (cs := byteCells rx) hY28.out (by rw [hCx.out.len]; rfl) hXx)
      have hK29 := hid (holds_far hK28.out (by first | (have := hg14x.out; omega) | (have := hg14y.out; omega)) hXx)
      have hB29 := hid (below_put hB28.out (by have := hg14x.out; omega) hXx)
      have hX29 := hid (holds_far hX28.out (by first | (have := hg14x.out; omega) | (have := hg14y.out; omega)) hXx)
      clear hXx hK28 hB28 hX28 hY28
      refine hK'.out _ _ (by exact ⟨hK29.out, hX29.out⟩) (fun zH => ?_)
      clear hK' K
      refine wpAnyH_done (by kernel_rfl) ?_ _
      exact ⟨g14, by simp only [puts, ly, Act.put], hK29.out, hY29.out, hB29.out, hg14x.out⟩
  clear hK24 hB24
  rintro a' W44 ⟨g14, rfl, hk, hx, hb, hgl⟩
  have hK44 := hid hk
  have hY44 := hid hx
  have hB44 := hid hb
  have hg14x := hid hgl
  clear hk hx hb hgl
  simp only [puts, ly, Act.put]
  go_wp2_with fail
  have hb : Below W44.heap.size W44 W44.drew := (Below.refl _ _).drew
  have hK45 := zon hb hK44
  have hB45 := zup hb hB44
  have hY45 := zon hb hY44
  clear hb hK44 hB44 hY44
  refine wp_region_held_drew (S := fun V => Holds V w.heap.size 39 kc ∧ Holds V g14 60 (byteCells rx)) (by kernel_rfl) (by exact ⟨hK45.out, hY45.out⟩) (fun zH => ?_)
  generalize W44.drew = W45 at *
  refine tkx 0 (.pointer (some ⟨w.heap.size, 1, none⟩)) zH ?_; simp only [lp]
  refine tkx 1 (.int .i64 (h : Int)) zH ?_ (hy := .inl ⟨by kernel_rfl, fun V hS => by have c1 := hS.1.c 1 _ k1.out; go_simp⟩); simp only [lp]
  refine tkx 4 (.pointer (some ⟨w.heap.size, 0, none⟩)) zH ?_; simp only [lp]
  refine tkx 5 (.int .i64 (kd : Int)) zH ?_ (hy := .inl ⟨by kernel_rfl, fun V hS => by have c0 := hS.1.c 0 _ k0.out; go_simp⟩); simp only [lp]
  refine tkx 8 (.pointer (some ⟨w.heap.size, 2, none⟩)) zH ?_; simp only [lp]
  refine tkx 9 (.string id) zH ?_ (hy := .inl ⟨by kernel_rfl, fun V hS => by have c2 := hS.1.c 2 _ k2.out; go_simp⟩); simp only [lp]
  refine tkx 11 (.slice (some ⟨g14, 0, none⟩) 32 32) zH ?_; simp only [lp]
  refine tkx 12 (.string tx) zH ?_ (hy := .inl ⟨by kernel_rfl, fun V hS => by have hc := hvx.out V _ hS.2; go_simp⟩); simp only [lp]
  refine wpAnyH_ready (rs := [2]) (by kernel_rfl) (by simp) (AllReadyH.cons rfl (fun K hK => ?_) AllReadyH.nil)
  have hK' := hid hK
  clear hK
  rw [if_pos (by kernel_rfl)]
  simp only [ly1, ly2, ly3]
  go_simp
  refine (hTy.out _).mono ?_
  rintro e w' ⟨rfl, rfl⟩
  refine hK'.out _ _ (by exact ⟨hK45.out, hY45.out⟩) (fun zH => ?_)
  clear hK' K
  refine wpAnyH_ready (rs := [3]) (by kernel_rfl) (by simp) (AllReadyH.cons rfl (fun K hK => ?_) AllReadyH.nil)
  have hK' := hid hK
  clear hK
  rw [if_pos (by kernel_rfl)]
  simp only [ly1, ly2, ly3]
  go_simp
  refine (hut.out _).mono ?_
  rintro e W46 ⟨rfl, hb⟩
  have hK46 := zon hb hK45
  have hB46 := zup hb hB45
  have hY46 := zon hb hY45
  clear hb hK45 hB45 hY45
  refine hK'.out _ _ (by exact ⟨hK46.out, hY46.out⟩) (fun zH => ?_)
  clear hK' K
  refine wpAnyH_ready (rs := [6]) (by kernel_rfl) (by simp) (AllReadyH.cons rfl (fun K hK => ?_) AllReadyH.nil)
  have hK' := hid hK
  clear hK
  rw [if_pos (by kernel_rfl)]
  simp only [ly1, ly2, ly3]
  go_simp
  refine (huk.out _).mono ?_
  rintro e W47 ⟨rfl, hb⟩
  have hK47 := zon hb hK46
  have hB47 := zup hb hB46
  have hY47 := zon hb hY46
  clear hb hK46 hB46 hY46
  refine hK'.out _ _ (by exact ⟨hK47.out, hY47.out⟩) (fun zH => ?_)
  clear hK' K
  refine tkx 7 (.string (bt ++ bk)) zH ?_; simp only [lp]
  refine tkx 10 (.string (bt ++ bk ++ id)) zH ?_; simp only [lp]
  refine tkx 13 (.string (bt ++ bk ++ id ++ tx)) zH ?_; simp only [lp]
  refine tkx 14 (.string (bt ++ bk ++ id ++ tx)) zH ?_; simp only [lp]
  refine tkx 15 (.int .i64 0) zH ?_; simp only [lp]
  refine wpAnyH_done (by kernel_rfl) ?_ _
  go_wp2_with fail
  go_ret2
  exact ⟨by rw [hans.out]; rfl, hB47.out⟩


end Go.Proofs.YtmfajekfipfjpaaGreat
