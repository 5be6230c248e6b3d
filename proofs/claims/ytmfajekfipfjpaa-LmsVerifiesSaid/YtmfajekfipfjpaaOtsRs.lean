/- Layer 4, the reference's side: OtsPublic, the answer.
   Layer 4, the reference's side: digits, num.
   Layer 4, the reference's side: OtsSign. -/
import Derived.Test.YtmfajekfipfjpaaOtsRr
import Derived.Test.YtmfajekfipfjpaaOtsB
namespace Go.Proofs.Ytmfajekfipfjpaa
open Go.RowKit
open Go.Lib (strCells strCells_length strCells_oneCell)
attribute [local irreducible] Sha.compress Sha.blocks Sha.sha Sha.pad

/-- What lies where while the reference gathers. -/
structure PubR (w wr : World) (T : ByteArray) (g c : Nat) : Prop where
  r : Holds wr w.heap.size 44 z32.toList
  row : RowB wr 5 T g c
  lo : w.heap.size < g
  b : Below w.heap.size w wr

theorem PubR.below {w wr w' : World} {T : ByteArray} {g c : Nat} (h : PubR w wr T g c) (hb : Below wr.heap.size wr w') : PubR w w' T g c :=
  ⟨h.r.below hb h.r.lt, h.row.below hb h.row.lt, h.lo, h.b.trans (hb.mono h.b.size)⟩

theorem PubR.more {w wr w' : World} {T T' : ByteArray} {g c g' c' : Nat} (h : PubR w wr T g c) (hR : RowB w' 5 T' g' c') (hg : wr.grownBy w' (some g)) (hf : g' = g ∨ wr.heap.size ≤ g') : PubR w w' T' g' c' := by
  have h1 := h.lo
  have h2 := h.r.lt
  refine ⟨h.r.grown hg (fun e => by have := Option.some.inj e; omega), hR, by omega, h.b.grown hg h.b.size (fun k e => by have := Option.some.inj e; omega)⟩

/-- A row that a text was turned into. -/
theorem PubR.start {w wr w' : World} {T : ByteArray} {c : Nat} (hr : Holds wr w.heap.size 44 z32.toList) (hb : Below w.heap.size w wr) (hR : RowB w' 5 T wr.heap.size c) (hb' : Below wr.heap.size wr w') : PubR w w' T wr.heap.size c :=
  ⟨hr.below hb' hr.lt, hR, hr.lt, hb.trans (hb'.mono hb.size)⟩

theorem top_wrap2 (k : Nat) (h : k ≤ 8) : IntKind.i64.wrap (IntKind.i64.wrap (2 ^ k) - 1) = ((2 ^ k - 1 : Nat) : Int) := by
  rcases nine h with rfl | rfl | rfl | rfl | rfl | rfl | rfl | rfl | rfl <;> decide +kernel

theorem txt_append (T : ByteArray) (l : List UInt8) : (T ++ txt l).data.toList = T.data.toList ++ l := by rw [data_append, txt_list]

set_option maxRecDepth 100000 in
set_option maxHeartbeats 2000000 in
theorem rPublic_good (kind q : Int) (id seed : ByteArray) (o : Ots.Par) (hgood : otsGood kind q id seed = some o) (w : World) :
    Calls Try.prog 76 #[.int .i64 kind, .string id, .int .i64 q, .string seed] w fun e w' => e = .returned (.tuple #[hv (Ots.pub o (Ots.head id.data.toList q.toNat) seed.data.toList), .int .i64 0]) ∧ Below w.heap.size w w' := by
  obtain ⟨i0, hi, hz0, hz1, hz2⟩ := info_parts Try.infoU8
  obtain ⟨hpar, hm, hs32⟩ := good_parts hgood
  obtain ⟨hid16, n, rfl, hn⟩ := may_parts hm
  obtain ⟨m, ho⟩ := par_ok hpar
  have hans : refPar kind = .tuple #[.int .i64 (o.w : Int), .int .i64 (o.p : Int), .int .i64 (o.ls : Int)] := by unfold refPar; rw [hpar]
  have hans' := hid hans
  have hd := hid (head_list id n)
  have hhs : (id ++ be 4 n).size = 20 := by rw [ByteArray.size_append, be_size, hid16]
  have hcat : id.size + (be 4 n).size ≤ 9223372036854775807 := by rw [be_size, hid16]; decide
  rw [Int.toNat_natCast]
  obtain ⟨hd2, hhd⟩ : ∃ t, Ots.head id.data.toList n = t := ⟨_, rfl⟩
  rw [hhd]
  rw [hhd] at hd
  obtain ⟨H, hH⟩ : ∃ H, id ++ be 4 n = H := ⟨_, rfl⟩
  rw [hH] at hd hhs
  have hH' := hid hH
  have hdl : hd2.length = 20 := by rw [← hd.out, data_length, hhs]
  have hp100 := ho.p100
  have hw8 := ho.w8
  have hw1 := ho.w1
  have htopw := top_wrap2 o.w hw8
  have htop : o.top ≤ 255 := by
    have := Nat.pow_le_pow_right (n := 2) (by omega) hw8
    unfold Ots.Par.top
    omega
  have htd : o.top = 2 ^ o.w - 1 := rfl
  rw [← htd] at htopw
  have htw := hid htopw
  obtain ⟨f, hf⟩ : ∃ f : Nat → List UInt8, (fun i => Ots.steps hd2 i 0 o.top (Ots.priv hd2 i seed.data.toList)) = f := ⟨_, rfl⟩
  have hpub : Ots.pub o hd2 seed.data.toList = Sha.sha (hd2 ++ [0x80, 0x80] ++ ((List.range o.p).map f).flatten) := by rw [← hf]; rfl
  have hwk : ∀ (i : Nat) W, i < 1000000 → Calls Try.prog 82 #[.string H, .int .i64 (i : Int), .int .i64 0, .int .i64 (o.top : Int), .string (txt (Ots.priv hd2 i seed.data.toList))] W fun e w' => e = .returned (.string (txt (f i))) ∧ Below W.heap.size W w' := fun i W hi => by
    have h := rSteps_any H i 0 o.top (Ots.priv hd2 i seed.data.toList) W (sha_len32 _) (by omega) hi (by omega) (by omega)
    rw [hd.out, Nat.sub_zero] at h
    rw [← hf]
    exact h
  have hpv : ∀ (i : Nat) W, i < 1000000 → Calls Try.prog 83 #[.string H, .int .i64 (i : Int), .string seed] W fun e w' => e = .returned (.string (txt (Ots.priv hd2 i seed.data.toList))) ∧ Below W.heap.size W w' := fun i W hi => by
    have h := rPriv_any H seed i W hi (by omega) (by omega)
    rw [hd.out] at h
    exact h
  have hf32 : ∀ i, (f i).length = 32 := fun i => by
    rw [← hf]
    exact steps_len _ _ _ _ (sha_len32 _) _
  have hflat := hid (fun k => Ots.flat32 f hf32 k)
  have hnext := hid (fun k => Ots.flat_next f k)
  have hbe := hid (fun W => Be_any (n : Int) 4 4 rfl (by decide) n rfl (by omega) W)
  rw [hpub]
  obtain ⟨fl, hfl⟩ : ∃ fl : Nat → List UInt8, (fun k => ((List.range k).map f).flatten) = fl := ⟨_, rfl⟩
  have hfl0 : fl 0 = [] := by rw [← hfl]; rfl
  have hflp : ((List.range o.p).map f).flatten = fl o.p := by rw [← hfl]
  have hfl32 : ∀ k, (fl k).length = 32 * k := fun k => by rw [← hfl]; exact hflat.out k
  have hfln : ∀ k, fl (k + 1) = fl k ++ f k := fun k => by rw [← hfl]; exact hnext.out k
  rw [hflp]
  have hwk' := hid hwk
  have hpv' := hid hpv
  have hf32' := hid hf32
  have hfl0' := hid hfl0
  have hfl32' := hid hfl32
  have hfln' := hid hfln
  obtain ⟨W1, hW1⟩ : ∃ W1, w.alloc (.cells z32 44) = W1 := ⟨_, rfl⟩
  have hH1 : Holds W1 w.heap.size 44 z32.toList := by rw [← hW1]; exact Holds.new w _ _
  have hb1 : Below w.heap.size w W1 := by rw [← hW1]; exact (Below.refl _ _).alloc (Nat.le_refl _) _
  have hW1' := hid hW1
  have hH1' := hid hH1
  have hb1' := hid hb1
  have hd' := hid hd.out
  clear hW1 hH1 hb1 hans hgood hpar hwk hpv hf32 hf hpub hhd hd ho htd htopw hfl hflp hfl0 hfl32 hfln hflat hnext
  have h8080 : (⟨#[128, 128]⟩ : ByteArray).size = 2 := rfl
  have hcat2 : H.size + (⟨#[128, 128]⟩ : ByteArray).size ≤ 9223372036854775807 := by rw [hhs, h8080]; decide
  obtain ⟨T0, hT0⟩ : ∃ T0, H ++ (⟨#[128, 128]⟩ : ByteArray) = T0 := ⟨_, rfl⟩
  have hT0l : T0.data.toList = hd2 ++ [0x80, 0x80] := by rw [← hT0, data_append, hd'.out]
  have hT0s : T0.size = 22 := by rw [← data_length, hT0l]; simp [hdl]
  have hT0l' := hid hT0l
  have hT0s' := hid hT0s
  clear hT0l hT0s
  have hx0 : ((o.w : Int) == 0) = false := by
    simp
    omega
  have hs0 : ((seed.size : Int) != 32) = false := by simp; omega
  have hs0' : ((seed.size : Int) == 32) = true := by simp; omega
  go_enter Try.func76, Try.ntmps76
  go_wp2_with ((with_reducible refine at_slot (some 8) ?_); refine wpList_run rfl (.pointer (some ⟨w.heap.size, 0, none⟩)) (w.alloc (.cells z32 44)) (by kernel_rfl) ?_; rw [hW1'.out])
  refine (Params_any kind _).mono ?_
  rintro e W2 ⟨rfl, rfl⟩
  rw [hans'.out]
  rename_i hK1
  refine hK1 _ _ ?_
  clear hK1
  go_wp2_with (go_at_call 80; refine (otsMay_any id _ _).mono ?_; rintro e w' ⟨rfl, rfl⟩; rw [hm])
  refine (hbe.out _).mono ?_
  rintro e W3 ⟨rfl, hb3⟩
  have hH3 := hid (hH1'.out.below hb3 hH1'.out.lt)
  have hB3 := hid (hb1'.out.trans (hb3.mono hb1'.out.size))
  clear hb3
  obtain ⟨c0, W4, hcv, hR4, hb4⟩ := run_bytes_row (P := Try.prog) W3 9 49 5 T0 Try.underlying9 Try.underlying49 Try.underlying5 (by have := hT0s'.out; omega)
  have hP4 := hid (PubR.start hH3.out hB3.out hR4 hb4)
  clear hR4 hb4
  go_wp2_with fail
  clear hT0 hcv
  generalize W3.heap.size = g0 at *
  go_loopw [14, 15] (fun out i wr => ∃ (k : Nat) (T : ByteArray) (g c : Nat), k ≤ o.p ∧ i = .int .i64 (k : Int) ∧ out = .slice (some ⟨g, 0, none⟩) T.size c ∧ T.data.toList = hd2 ++ [0x80, 0x80] ++ fl k ∧ PubR w wr T g c) (fun _ i _ => o.p - (intOf i).toNat)
  case atStart => exact ⟨0, T0, _, _, Nat.zero_le _, rfl, rfl, by rw [hT0l'.out, hfl0'.out, List.append_nil], hP4.out⟩
  case round =>
    obtain ⟨k, T, g, c, hk, rfl, rfl, hT, hP⟩ := hrel
    have hTs : T.size = 22 + 32 * k := by
      rw [← data_length, hT, List.length_append, hfl32'.out k]
      simp [hdl]
    have hP' := hid hP
    have hT' := hid hT
    have hTs' := hid hTs
    clear hP hT hTs
    by_cases hlt : k < o.p
    · have hkp : (k : Int) < (o.p : Int) := by omega
      have hk0 : (0 : Int) ≤ (k : Int) := by omega
      have hwk := hid (fun W => hwk'.out k W (by omega))
      have hpv := hid (fun W => hpv'.out k W (by omega))
      have hfk := hf32'.out k
      have hnx := hfln'.out k
      have hTn : (T ++ txt (f k)).data.toList = hd2 ++ [0x80, 0x80] ++ fl (k + 1) := by rw [txt_append, hT'.out, hnx]; simp only [List.append_assoc]
      have hTn' := hid hTn
      have hfs : (txt (f k)).size = 32 := by rw [txt_size, hfk]
      clear hTn hnx
      generalize Ots.priv hd2 k seed.data.toList = pv at *
      generalize f k = fk at *
      have hPd := hid (hP'.out.below (Below.refl _ _).drew)
      go_wp2_with fail
      refine wp_region_held_drew (S := fun _ => True) (by kernel_rfl) (by exact True.intro) (fun hHeld => ?_)
      refine tkn 0 (.slice (some ⟨g, 0, none⟩) T.size c) rfl (by kernel_rfl) (fun _ _ _ h => h) (yieldsIf_move _ rfl rfl rfl) hHeld ?_
      simp only [ly, Act.put]
      refine tkn 1 (.string H) rfl (by kernel_rfl) (fun _ _ _ h => h) (yieldsIf_move _ rfl rfl rfl) hHeld ?_
      simp only [ly, Act.put]
      refine tkn 2 (.int .i64 (k : Int)) rfl (by kernel_rfl) (fun _ _ _ h => h) (yieldsIf_move _ rfl rfl rfl) hHeld ?_
      simp only [ly, Act.put]
      refine tkn 3 (.int .i64 (o.w : Int)) rfl (by kernel_rfl) (fun _ _ _ h => h) (yieldsIf_move _ rfl rfl rfl) hHeld ?_
      simp only [ly, Act.put]
      refine tkn 4 (.int .i64 (IntKind.i64.wrap (2 ^ o.w))) rfl (by kernel_rfl) (fun _ _ _ h => h) (.inl ⟨by kernel_rfl, fun w _ => by go_simp⟩) hHeld ?_
      simp only [ly, Act.put]
      refine tkn 5 (.int .i64 (o.top : Int)) rfl (by kernel_rfl) (fun _ _ _ h => h) (.inl ⟨by kernel_rfl, fun w _ => by go_simp; exact htw.out⟩) hHeld ?_
      simp only [ly, Act.put]
      refine tkn 6 (.string H) rfl (by kernel_rfl) (fun _ _ _ h => h) (yieldsIf_move _ rfl rfl rfl) hHeld ?_
      simp only [ly, Act.put]
      refine tkn 7 (.int .i64 (k : Int)) rfl (by kernel_rfl) (fun _ _ _ h => h) (yieldsIf_move _ rfl rfl rfl) hHeld ?_
      simp only [ly, Act.put]
      refine tkn 8 (.string seed) rfl (by kernel_rfl) (fun _ _ _ h => h) (yieldsIf_move _ rfl rfl rfl) hHeld ?_
      simp only [ly, Act.put]
      refine wpAnyH_ready (rs := [9]) (by kernel_rfl) (by simp) (AllReadyH.cons rfl (fun K hK => ?_) AllReadyH.nil)
      have hK' := hid hK
      clear hK
      rw [if_pos (by kernel_rfl)]
      simp only [ly1, ly2, ly3]
      go_simp
      refine (hpv.out _).mono ?_
      rintro e W5 ⟨rfl, hb5⟩
      have hP5 := hid (hPd.out.below hb5)
      clear hb5
      refine hK'.out _ _ (by exact True.intro) (fun hHeld => ?_)
      clear hK' K
      refine wpAnyH_ready (rs := [10]) (by kernel_rfl) (by simp) (AllReadyH.cons rfl (fun K hK => ?_) AllReadyH.nil)
      have hK' := hid hK
      clear hK
      rw [if_pos (by kernel_rfl)]
      simp only [ly1, ly2, ly3]
      go_simp
      refine (hwk.out _).mono ?_
      rintro e W6 ⟨rfl, hb6⟩
      have hP6 := hid (hP5.out.below hb6)
      clear hb6
      refine hK'.out _ _ (by exact True.intro) (fun hHeld => ?_)
      clear hK' K
      refine wpAnyH_ready (rs := [11]) (by kernel_rfl) (by simp) (AllReadyH.cons rfl (fun K hK => ?_) AllReadyH.nil)
      have hK' := hid hK
      clear hK
      rw [if_pos (by kernel_rfl)]
      simp only [ly1, ly2, ly3]
      refine wp_append_rowB (.tmp 48) (.tmp 58) 49 9 rfl 5 i0 Try.underlying49 Try.underlying9 hi hz0 hz1 hz2 T (txt fk) g c rfl rfl hP6.out.row (by have := hTs'.out; omega) _ rfl ?_
      intro g' c' W7 hR7 hg7 hf7
      have hP7 := hid (hP6.out.more hR7 hg7 hf7)
      clear hR7 hg7 hf7
      refine hK'.out _ _ (by exact True.intro) (fun hHeld => ?_)
      clear hK' K
      simp only [ly, Act.put]
      refine tkn 12 (.slice (some ⟨g', 0, none⟩) (T ++ txt fk).size c') rfl (by kernel_rfl) (fun _ _ _ h => h) (yieldsIf_assign _ rfl rfl rfl) hHeld ?_
      simp only [ly, Act.put]
      refine wpAnyH_done (by kernel_rfl) ?_ _
      go_wp2_with fail
      go_roundw
      case rel => exact ⟨k + 1, T ++ txt fk, g', c', by omega, by go_num, rfl, hTn'.out, hP7.out⟩
      case measure => simp [intOf]; omega
    · obtain rfl : k = o.p := by omega
      have hcv2 := run_convert_rowB (P := Try.prog) 49 9 Try.underlying49 Try.underlying5 Try.underlying9 (n := T.size) rfl hP'.out.row
      have hsh := hid (fun W => rsha_any T W (by have := hTs'.out; omega))
      rw [hT'.out] at hsh
      have hno : ¬ ((o.p : Nat) : Int) < (o.p : Int) := by omega
      have hgl : (Sha.sha (hd2 ++ [0x80, 0x80] ++ fl o.p)).length = 32 := sha_len32 _
      unfold hashV at hsh
      obtain ⟨out, hout⟩ : ∃ out, Sha.sha (hd2 ++ [0x80, 0x80] ++ fl o.p) = out := ⟨_, rfl⟩
      rw [hout] at hsh hgl
      have hout' := hid hout
      clear hout
      have hsf := hv_size out hgl
      have h1f := all_oneCell_toArray (byteCells_one out)
      go_wp2_with fail
      refine (hsh.out _).mono ?_
      rintro e W5 ⟨rfl, hb5⟩
      have hP5 := hid (hP'.out.below hb5)
      have hth5 := hv_put out (by decide) hP5.out.r hgl
      have hr6 := hid hth5.2
      have hth6 := hth5.1
      have hb6 := hid (below_setCells hP5.out.b w.heap.size 0 (byteCells out) (Nat.le_refl _))
      clear hb5 hth5
      rename_i hK1
      refine hK1 _ _ ?_
      clear hK1
      refine wpList_store_mid rfl 44 (.tmp 8) (.tmp 62) rfl w.heap.size 0 (byteCells out).toArray rfl rfl (by exact hth6) (by exact hsf) (by exact h1f) ?_
      generalize hW6 : World.setCells _ _ _ _ = W6
      have e6 : W5.setCells w.heap.size 0 (byteCells out) = W6 := hW6
      rw [e6] at hr6 hb6
      clear hW6 e6 hth6
      go_wp2_with fail
      exact bodyPost_ret (results_ct rfl _ _ w.heap.size 44 _ (0, 0) _ rfl hr6.out (.int .i64 0) rfl Try.underlying44 rfl (by exact hsf)) rfl ⟨by rw [hout'.out]; rfl, hb6.out⟩

theorem rPublic_any (kind q : Int) (id seed : ByteArray) (w : World) :
    Calls Try.prog 76 #[.int .i64 kind, .string id, .int .i64 q, .string seed] w fun e w' => e = .returned (.tuple #[(pubAns kind q id seed).1, .int .i64 (pubAns kind q id seed).2]) ∧ Below w.heap.size w w' := by
  cases hg : otsGood kind q id seed with
  | none =>
    have e : pubAns kind q id seed = (.agg z32, 400) := by unfold pubAns; rw [hg]
    rw [e]
    exact rPublic_bad kind q id seed hg w
  | some o =>
    have e : pubAns kind q id seed = (hv (Ots.pub o (Ots.head id.data.toList q.toNat) seed.data.toList), 0) := by unfold pubAns; rw [hg]
    rw [e]
    exact rPublic_good kind q id seed o hg w

end Go.Proofs.Ytmfajekfipfjpaa
namespace Go.Proofs.Ytmfajekfipfjpaa
open Go.RowKit
open Go.Lib (strCells strCells_length strCells_oneCell)
attribute [local irreducible] Sha.compress Sha.blocks Sha.sha Sha.pad

/-- Block g begins with these numbers. -/
def Nums (w : World) (g : Nat) (l : List Nat) : Prop := ∃ cur fz, w.heap[g]? = some (.cells cur 3 fz) ∧ cur.toList.take l.length = nums l

theorem Nums.lt {w : World} {g : Nat} {l : List Nat} (h : Nums w g l) : g < w.heap.size := by
  obtain ⟨cur, fz, h1, _⟩ := h
  exact (Array.getElem?_eq_some_iff.1 h1).1

theorem Nums.of_block {w w' : World} {g : Nat} {l : List Nat} (h : Nums w g l) (hb : w'.heap[g]? = w.heap[g]?) : Nums w' g l := by
  obtain ⟨cur, fz, h1, h2⟩ := h
  exact ⟨cur, fz, hb.trans h1, h2⟩

theorem Nums.below {w w' : World} {B g : Nat} {l : List Nat} (h : Nums w g l) (hb : Below B w w') (hg : g < B) : Nums w' g l := h.of_block (hb.block g hg)

theorem Nums.cell {w : World} {g : Nat} {l : List Nat} (h : Nums w g l) {k d : Nat} (hk : l[k]? = some d) : w.cell? ⟨g, k, none⟩ = some (.int .i64 (d : Int)) := by
  obtain ⟨cur, fz, h1, h2⟩ := h
  rw [cell_of_row w g k cur 3 fz h1, ← Array.getElem?_toList]
  have hlt : k < l.length := (List.getElem?_eq_some_iff.1 hk).1
  have e : cur.toList[k]? = (cur.toList.take l.length)[k]? := by rw [List.getElem?_take, if_pos hlt]
  rw [e, h2, nums_at, hk]
  rfl

theorem Nums.of_row {w : World} {B g n c : Nat} {l : List Nat} (h : w.ownsRow B 3 1 (.slice (some ⟨g, 0, none⟩) n c) n (nums l)) : Nums w g l := by
  obtain ⟨hl, h2⟩ := h
  rcases h2 with ⟨hv, _⟩ | ⟨g', cap, cur, hv, _, hgg, _, _, _, htake⟩
  · cases hv
  · injection hv with h1 _ _
    injection h1 with h1
    injection h1 with h1 _ _
    subst h1
    rw [nums_length, Nat.mul_one] at hl
    rw [Nat.mul_one, ← hl] at htake
    exact ⟨cur, (0, 0), hgg, htake⟩

/-- A row of numbers of a call's own while it is filled. -/
structure NumR (w wr : World) (v : Value) (n : Nat) (l : List Nat) : Prop where
  row : wr.ownsRow w.heap.size 3 1 v n (nums l)
  b : Below w.heap.size w wr

theorem NumR.below {w wr w' : World} {v : Value} {n : Nat} {l : List Nat} (h : NumR w wr v n l) (hb : Below wr.heap.size wr w') : NumR w w' v n l := by
  refine ⟨⟨h.row.1, ?_⟩, h.b.trans (hb.mono h.b.size)⟩
  rcases h.row.2 with hn | ⟨q, cap, cur, hv, hbq, hq, rest⟩
  · exact .inl hn
  · exact .inr ⟨q, cap, cur, hv, hbq, (hb.block q (Array.getElem?_eq_some_iff.1 hq).1).trans hq, rest⟩

theorem NumR.more {w wr w' : World} {v v' : Value} {n : Nat} {l : List Nat} {d : Nat} (h : NumR w wr v n l) (hR : w'.ownsRow w.heap.size 3 1 v' (n + 1) (nums l ++ [.int .i64 (d : Int)])) (hg : wr.grownBy w' v.ownBlock) : NumR w w' v' (n + 1) (l ++ [d]) := by
  refine ⟨?_, h.b.grown hg h.b.size (fun k e => (h.row.lt k e).1)⟩
  have e : nums (l ++ [d]) = nums l ++ [.int .i64 (d : Int)] := by unfold nums; rw [List.map_append]; rfl
  rw [e]
  exact hR

theorem pow_small {k : Nat} (h : k ≤ 8) : (0 : Int) < 2 ^ k ∧ (2 : Int) ^ k ≤ 256 := by
  rcases nine h with rfl | rfl | rfl | rfl | rfl | rfl | rfl | rfl | rfl <;> decide

theorem top_int (o : Ots.Par) (h : o.w ≤ 8) : (2 : Int) ^ o.w = (o.top : Int) + 1 := by
  unfold Ots.Par.top
  rcases nine h with e | e | e | e | e | e | e | e | e <;> rw [e] <;> rfl

theorem digits_eq (o : Ots.Par) (m : Nat) (hm : 256 / o.w = m) (q : List UInt8) : Ots.digitsOf o q = chk o q m (beL 2 (Ots.left o (sofar o q m) * 2 ^ o.ls)) (o.p - m) := by
  subst hm
  rfl

theorem chk_none (o : Ots.Par) (q : List UInt8) (m : Nat) (c : List UInt8) : chk o q m c 0 = sofar o q m := by simp [chk]

set_option maxRecDepth 100000 in
set_option maxHeartbeats 2000000 in
theorem rDigits_any (kind : Int) (o : Ots.Par) (m : Nat) (hpar : Ots.par kind = some o) (ho : ParOk o m) (head salt msg : ByteArray) (w : World) (hh : head.size ≤ 1000) (hs : salt.size ≤ 1000) (hm : msg.size ≤ 1000000) :
    Calls Try.prog 81 #[.int .i64 kind, .string head, .string salt, .string msg] w fun e w' => ∃ g c, e = .returned (.slice (some ⟨g, 0, none⟩) o.p c) ∧ w.heap.size ≤ g ∧
      Nums w' g (Ots.digits o head.data.toList salt.data.toList msg.data.toList) ∧ Below w.heap.size w w' := by
  obtain ⟨i0, hi0, hz0, hz1, hz2⟩ := info_parts Try.infoIntD
  have hans : refPar kind = .tuple #[.int .i64 (o.w : Int), .int .i64 (o.p : Int), .int .i64 (o.ls : Int)] := by unfold refPar; rw [hpar]
  have hans' := hid hans
  obtain ⟨X, hX⟩ : ∃ X : ByteArray, head ++ ⟨#[129, 129]⟩ ++ salt ++ msg = X := ⟨_, rfl⟩
  have h2 : (⟨#[129, 129]⟩ : ByteArray).size = 2 := rfl
  have hXl : X.data.toList = head.data.toList ++ [0x81, 0x81] ++ salt.data.toList ++ msg.data.toList := by
    rw [← hX]
    simp only [ByteArray.data_append, Array.toList_append]
  have hXs : X.size ≤ 1002002 := by
    rw [← hX, ByteArray.size_append, ByteArray.size_append, ByteArray.size_append, h2]
    omega
  have z1 : head.size + (⟨#[129, 129]⟩ : ByteArray).size ≤ 9223372036854775807 := by rw [h2]; omega
  have z2 : (head ++ ⟨#[129, 129]⟩).size + salt.size ≤ 9223372036854775807 := by rw [ByteArray.size_append, h2]; omega
  have z3 : (head ++ ⟨#[129, 129]⟩ ++ salt).size + msg.size ≤ 9223372036854775807 := by rw [ByteArray.size_append, ByteArray.size_append, h2]; omega
  obtain ⟨q, hq⟩ : ∃ q, Sha.sha (head.data.toList ++ [0x81, 0x81] ++ salt.data.toList ++ msg.data.toList) = q := ⟨_, rfl⟩
  have hq32 : q.length = 32 := by rw [← hq]; exact sha_len32 _
  have hdg : Ots.digits o head.data.toList salt.data.toList msg.data.toList = Ots.digitsOf o q := by unfold Ots.digits; rw [hq]
  rw [hdg, digits_eq o m ho.m0]
  have hrH := hid (fun W => rH_any X W (by omega))
  rw [hXl, hq] at hrH
  have hdq := hid (fun (i : Nat) (hi : i < m) W => refDigit_any (txt q) i o.w (by rw [txt_size, hq32]; exact ho.fst i hi) W)
  have hd2 := hid (fun (n i : Nat) (hi : i < o.p - m) W => refDigit_any (be 2 n) i o.w (by rw [be_size]; exact ho.snd i hi) W)
  have ho' := hid ho
  have hp100 := ho.p100
  have hw1 := ho.w1
  have hw8 := ho.w8
  have hmp := ho.mp
  have htop : o.top ≤ 255 := by
    have := Nat.pow_le_pow_right (n := 2) (by omega) hw8
    unfold Ots.Par.top
    omega
  obtain ⟨hp1, hp2⟩ := pow_small hw8
  have hti := hid (top_int o hw8)
  have hq1 : (256 : Int) / (o.w : Int) = (m : Int) := by rw [← ho'.out.m0]; rfl
  have hq2 : (256 : Int).tdiv (o.w : Int) = (m : Int) := by rw [← ho'.out.m0]; rfl
  have hw0 : ¬ (o.w : Int) = 0 := by omega
  clear ho hq hdg hXl hans hpar
  go_enter Try.func81, Try.ntmps81
  go_wp2_with fail
  refine (Params_any kind _).mono ?_
  rintro e W2 ⟨rfl, rfl⟩
  rw [hans'.out]
  rename_i hK1
  refine hK1 _ _ ?_
  clear hK1
  go_wp2_with fail
  refine (hrH.out _).mono ?_
  rintro e W3 ⟨rfl, hb3⟩
  have hN3 : NumR W2 W3 (.slice none 0 0) 0 [] := ⟨⟨rfl, .inl ⟨rfl, rfl⟩⟩, hb3⟩
  have hN3' := hid hN3
  clear hN3 hb3
  go_wp2_with fail
  go_loopw [13, 14, 15] (fun out s i wr => ∃ (k : Nat), k ≤ m ∧ i = .int .i64 (k : Int) ∧ s = .int .i64 (Ots.left o (sofar o q k) : Int) ∧ NumR W2 wr out k (sofar o q k)) (fun _ _ i _ => m - (intOf i).toNat)
  case atStart => exact ⟨0, Nat.zero_le _, rfl, rfl, hN3'.out⟩
  case round =>
    obtain ⟨k, hk, rfl, rfl, hN⟩ := hrel
    have hll := left_le o q k htop
    by_cases hlt : k < m
    · have hkm : (k : Int) < (m : Int) := by omega
      have hk0 : (0 : Int) ≤ (k : Int) := by omega
      have hsum := hid (left_next o q k)
      have hnx := hid (sofar_next o q k)
      have hdt := digit_top o q k
      have hm100 : m ≤ 100 := by omega
      have hdk := hid (fun W => hdq.out k hlt W)
      rw [txt_list] at hdk
      have hN' := hid hN
      clear hN
      generalize Ots.digit q k o.w = d at *
      generalize Ots.left o (sofar o q k) = S at *
      go_wp2_with fail
      refine (hdk.out _).mono ?_
      rintro e w' ⟨rfl, mm, rfl⟩
      have hbd : Below wr.heap.size wr (wr.drewN mm) := ⟨rfl, rfl, rfl, Nat.le_refl _, fun _ _ => rfl⟩
      have hN5 := hid (hN'.out.below hbd)
      clear hbd
      generalize World.drewN wr mm = W5 at *
      go_wp2_with ((with_reducible refine at_slot (some 52) ?_); refine wpList_append_lies _ rfl (.tmp 49) (.tmp 51) 129 rfl W2.heap.size 3 i0 (.int .i64 0) 1 8 Try.underlying129 hi0 hz0 hz1 hz2 rfl (by omega) u13 k _ rfl (hN5.out.below ((Below.refl _ _).alloc (Nat.le_refl _) _)).row ⟨W5.heap.size, 0, none⟩ 1 1 [.int .i64 (d : Int)] rfl rfl (World.news_of_block (heap_alloc_new W5 _)) (by simp [Value.oneCell']) (by omega) (by unfold maxLen; omega) (by omega) (by have := hN5.out.b.size; simp; omega) _ rfl ?_)
      intro g cap W6 hR6 hg6 _ _
      have hN6 := hid ((hN5.out.below ((Below.refl _ _).alloc (Nat.le_refl _) _)).more hR6 hg6)
      clear hR6 hg6
      go_wp2_with fail
      go_roundw
      case rel => exact ⟨k + 1, by omega, by go_num, by rw [hsum.out]; exact congrArg (Value.int .i64) (by have := hti.out; omega), by rw [hnx.out]; exact hN6.out⟩
      case measure => simp [intOf]; omega
    · obtain rfl : k = m := by omega
      have hk1 : 1 ≤ k := by
        have := ho'.out.m0
        rw [← this]
        exact Nat.div_pos (by omega) (by omega)
      have hl4 := ho'.out.l4
      have h2p : 2 ^ o.ls ≤ 16 := Nat.pow_le_pow_right (n := 2) (by omega) hl4
      have hmul : Ots.left o (sofar o q k) * 2 ^ o.ls ≤ 25500 * 16 := Nat.mul_le_mul (by omega) h2p
      obtain ⟨g, c, rfl, _⟩ := hN.row.form (by omega)
      have hN' := hid hN
      clear hN
      generalize hS : Ots.left o (sofar o q k) = S at *
      have hcast : (S : Int) * 2 ^ o.ls = ((S * 2 ^ o.ls : Nat) : Int) := by
        rw [Int.natCast_mul, Int.natCast_pow]
        rfl
      have hshl := IntWalk.i64_in ((S : Int) * 2 ^ o.ls) (by omega)
      have hbe := hid (fun W => Be_any ((S : Int) * 2 ^ o.ls) 2 2 rfl (by decide) (S * 2 ^ o.ls) hcast (by omega) W)
      obtain ⟨N, hNe⟩ : ∃ N, S * 2 ^ o.ls = N := ⟨_, rfl⟩
      rw [hNe] at hcast hbe hmul
      have hNe' := hid hNe
      clear hNe
      have hcast' := hid hcast
      clear hcast
      go_wp2_with fail
      refine (hbe.out _).mono ?_
      rintro e W8 ⟨rfl, hb8⟩
      have hN8 := hid (hN'.out.below hb8)
      clear hb8 hshl
      go_wp2_with fail
      go_loopw [13, 18] (fun out i wr => ∃ (j g c : Nat), j ≤ o.p - k ∧ i = .int .i64 (j : Int) ∧ out = .slice (some ⟨g, 0, none⟩) (k + j) c ∧ NumR W2 wr (.slice (some ⟨g, 0, none⟩) (k + j) c) (k + j) (chk o q k (beL 2 N) j)) (fun _ i _ => o.p - k - (intOf i).toNat)
      case atStart => exact ⟨0, g, c, Nat.zero_le _, rfl, rfl, by rw [chk_none]; exact hN8.out⟩
      case round =>
        obtain ⟨j, g1, c1, hj, rfl, rfl, hN⟩ := hrel
        have hN9 := hid hN
        clear hN
        by_cases hlt2 : k + j < o.p
        · have hlt' : ((k + j : Nat) : Int) < (o.p : Int) := by omega
          have hj0 : (0 : Int) ≤ (j : Int) := by omega
          have hnx := hid (chk_next o q k (beL 2 N) j)
          have hdd := hid (fun W => hd2.out N j (by omega) W)
          have he : (be 2 N).data.toList = beL 2 N := rfl
          rw [he] at hdd
          have hsz : k + j + 1 = k + (j + 1) := by omega
          have hsz' := hid hsz
          clear hsz
          generalize Ots.digit (beL 2 N) j o.w = d at *
          go_wp2_with fail
          refine (hdd.out _).mono ?_
          rintro e w' ⟨rfl, mm, rfl⟩
          have hbd : Below wr.heap.size wr (wr.drewN mm) := ⟨rfl, rfl, rfl, Nat.le_refl _, fun _ _ => rfl⟩
          have hN10 := hid (hN9.out.below hbd)
          clear hbd
          generalize World.drewN wr mm = W10 at *
          go_wp2_with ((with_reducible refine at_slot (some 69) ?_); refine wpList_append_lies _ rfl (.tmp 63) (.tmp 68) 129 rfl W2.heap.size 3 i0 (.int .i64 0) 1 8 Try.underlying129 hi0 hz0 hz1 hz2 rfl (by omega) _ (k + j) _ rfl (hN10.out.below ((Below.refl _ _).alloc (Nat.le_refl _) _)).row ⟨W10.heap.size, 0, none⟩ 1 1 [.int .i64 (d : Int)] rfl rfl (World.news_of_block (heap_alloc_new W10 _)) (by simp [Value.oneCell']) (by omega) (by unfold maxLen; omega) (by omega) (by have := hN10.out.b.size; simp; omega) _ rfl ?_)
          intro g2 c2 W11 hR11 hg11 _ _
          have hN11 := (hN10.out.below ((Below.refl _ _).alloc (Nat.le_refl _) _)).more hR11 hg11
          rw [← hnx.out, hsz'.out] at hN11
          have hN11' := hid hN11
          clear hR11 hg11 hN11
          rw [hsz'.out]
          go_wp2_with fail
          go_roundw
          case rel => exact ⟨j + 1, g2, c2, by omega, by go_num, rfl, hN11'.out⟩
          case measure => simp [intOf]; omega
        · obtain rfl : j = o.p - k := by omega
          have e1 : k + (o.p - k) = o.p := by omega
          have hno : ¬ ((o.p : Nat) : Int) < (o.p : Int) := by omega
          have hNl := hid (Nums.of_row hN9.out.row)
          have hge := (hN9.out.row.lt g1 rfl).1
          have hbl := hid hN9.out.b
          have hge' := hid hge
          clear hge hN9
          rw [e1] at *
          clear e1
          go_wp2_with fail
          go_ret
          exact ⟨g1, ⟨c1, rfl⟩, hge'.out, by rw [hNe'.out]; exact hNl.out, hbl.out⟩

end Go.Proofs.Ytmfajekfipfjpaa
namespace Go.Proofs.Ytmfajekfipfjpaa
open Go.RowKit
open Go.Lib (strCells strCells_length strCells_oneCell)
attribute [local irreducible] Sha.compress Sha.blocks Sha.sha Sha.pad

/-- What Sign answers. -/
def signAns (kind q : Int) (id seed msg : ByteArray) : ByteArray × Int := match otsGood kind q id seed with
  | some o => if msg.size ≤ 65536 then (txt (Ots.sign o kind.toNat (Ots.head id.data.toList q.toNat) seed.data.toList msg.data.toList), 0) else (⟨#[]⟩, 400)
  | none => (⟨#[]⟩, 400)

set_option maxRecDepth 100000 in
set_option maxHeartbeats 2000000 in
theorem rSign_bad (kind q : Int) (id seed msg : ByteArray) (hbad : otsGood kind q id seed = none ∨ 65536 < msg.size) (hms : msg.size ≤ 140737488351232) (w : World) :
    Calls Try.prog 44 #[.int .i64 kind, .string id, .int .i64 q, .string seed, .string msg] w fun e w' => e = .returned (.tuple #[.string ⟨#[]⟩, .int .i64 400]) ∧ Below w.heap.size w w' := by
  obtain ⟨x, y, z, hans, hok⟩ : ∃ x y z : Int, refPar kind = .tuple #[.int .i64 x, .int .i64 y, .int .i64 z] ∧ (x = 0 ∨ (x ≠ 0 ∧ (¬ (Ots.may id.size q = true ∧ seed.size = 32) ∨ 65536 < msg.size))) := by
    unfold refPar
    unfold otsGood at hbad
    cases hp : Ots.par kind with
    | none => exact ⟨0, 0, 0, rfl, .inl rfl⟩
    | some o =>
      obtain ⟨m, ho⟩ := par_ok hp
      refine ⟨o.w, o.p, o.ls, rfl, .inr ⟨by have := ho.w1; omega, ?_⟩⟩
      rcases hbad with hbad | hbad
      · refine .inl fun h => ?_
        rw [hp] at hbad
        simp only [if_pos h] at hbad
        cases hbad
      · exact .inr hbad
  have hans' := hid hans
  clear hans hbad
  go_enter Try.func44, Try.ntmps44
  go_wp2_with fail
  refine (Params_any kind _).mono ?_
  rintro e W2 ⟨rfl, rfl⟩
  rw [hans'.out]
  rename_i hK1
  refine hK1 _ _ ?_
  clear hK1
  rcases hok with rfl | ⟨hx, hno⟩
  · go_wp2_with fail
    go_ret2
    exact ⟨rfl, Below.refl _ _⟩
  · have hx0 : (x == 0) = false := by simpa using hx
    cases hm : Ots.may id.size q
    · go_wp2_with (go_at_call 80; refine (otsMay_any id q _).mono ?_; rintro e w' ⟨rfl, rfl⟩; rw [hm])
      go_ret2
      exact ⟨rfl, Below.refl _ _⟩
    · by_cases hs : seed.size = 32
      · have hbig : 65536 < msg.size := hno.resolve_left (fun h => h ⟨hm, hs⟩)
        have hs1 : ((seed.size : Int) != 32) = false := by simp; omega
        have hs2 : ((seed.size : Int) == 32) = true := by simp; omega
        have hb1 : (65536 : Int) < (msg.size : Int) := by omega
        go_wp2_with (go_at_call 80; refine (otsMay_any id q _).mono ?_; rintro e w' ⟨rfl, rfl⟩; rw [hm])
        go_ret2
        exact ⟨rfl, Below.refl _ _⟩
      · have hs1 : ((seed.size : Int) != 32) = true := by simp; omega
        have hs2 : ((seed.size : Int) == 32) = false := by simp; omega
        go_wp2_with (go_at_call 80; refine (otsMay_any id q _).mono ?_; rintro e w' ⟨rfl, rfl⟩; rw [hm])
        go_ret2
        exact ⟨rfl, Below.refl _ _⟩

/-- What lies where while the reference signs. -/
structure SgnR (w wr : World) (D : List Nat) (gD : Nat) (T : ByteArray) (g c : Nat) : Prop where
  d : Nums wr gD D
  row : RowB wr 5 T g c
  lo : w.heap.size ≤ gD
  lg : gD < g
  b : Below w.heap.size w wr

theorem SgnR.below {w wr w' : World} {D : List Nat} {gD : Nat} {T : ByteArray} {g c : Nat} (h : SgnR w wr D gD T g c) (hb : Below wr.heap.size wr w') : SgnR w w' D gD T g c :=
  ⟨h.d.below hb h.d.lt, h.row.below hb h.row.lt, h.lo, h.lg, h.b.trans (hb.mono h.b.size)⟩

theorem SgnR.more {w wr w' : World} {D : List Nat} {gD : Nat} {T T' : ByteArray} {g c g' c' : Nat} (h : SgnR w wr D gD T g c) (hR : RowB w' 5 T' g' c') (hg : wr.grownBy w' (some g)) (hf : g' = g ∨ wr.heap.size ≤ g') : SgnR w w' D gD T' g' c' := by
  have h1 := h.lo
  have h2 := h.lg
  have h3 := h.row.lt
  refine ⟨h.d.of_block (hg.block gD (by omega) (fun e => by have := Option.some.inj e; omega)), hR, h1, by omega, h.b.grown hg h.b.size (fun k e => by have := Option.some.inj e; omega)⟩

theorem SgnR.start {w wr w' : World} {D : List Nat} {gD : Nat} {T : ByteArray} {c : Nat} (hd : Nums wr gD D) (hlo : w.heap.size ≤ gD) (hb : Below w.heap.size w wr) (hR : RowB w' 5 T wr.heap.size c) (hb' : Below wr.heap.size wr w') : SgnR w w' D gD T wr.heap.size c :=
  ⟨hd.below hb' hd.lt, hR, hlo, hd.lt, hb.trans (hb'.mono hb.size)⟩

theorem salt_eq (head seed : List UInt8) : Sha.sha (head ++ [255, 253, 255] ++ seed) = Ots.salt head seed := by
  have e : beL 2 0xfffd = [255, 253] := by decide
  unfold Ots.salt Ots.priv
  rw [e]
  congr 1
  simp only [List.append_assoc]
  rfl

theorem digits_len (o : Ots.Par) (m : Nat) (ho : ParOk o m) (head s msg : List UInt8) : (Ots.digits o head s msg).length = o.p := by
  unfold Ots.digits
  rw [digits_eq o m ho.m0, chk_length]
  have := ho.mp
  omega

theorem kind_nat {kind : Int} {o : Ots.Par} (h : Ots.par kind = some o) : kind = (kind.toNat : Int) ∧ kind.toNat ≤ 4 := by
  rcases Ots.par_kind h with ⟨rfl, _⟩ | ⟨rfl, _⟩ <;> exact ⟨rfl, by decide⟩

set_option maxRecDepth 100000 in
set_option maxHeartbeats 2000000 in
theorem rSign_good (kind q : Int) (id seed msg : ByteArray) (o : Ots.Par) (hgood : otsGood kind q id seed = some o) (hms : msg.size ≤ 65536) (w : World) :
    Calls Try.prog 44 #[.int .i64 kind, .string id, .int .i64 q, .string seed, .string msg] w fun e w' => e = .returned (.tuple #[.string (txt (Ots.sign o kind.toNat (Ots.head id.data.toList q.toNat) seed.data.toList msg.data.toList)), .int .i64 0]) ∧ Below w.heap.size w w' := by
  obtain ⟨i0, hi, hz0, hz1, hz2⟩ := info_parts Try.infoU8
  obtain ⟨hpar, hm, hs32⟩ := good_parts hgood
  obtain ⟨hid16, n, rfl, hn⟩ := may_parts hm
  obtain ⟨m, ho⟩ := par_ok hpar
  obtain ⟨hkn, hk4⟩ := kind_nat hpar
  have hans : refPar kind = .tuple #[.int .i64 (o.w : Int), .int .i64 (o.p : Int), .int .i64 (o.ls : Int)] := by unfold refPar; rw [hpar]
  have hans' := hid hans
  have hd := hid (head_list id n)
  have hhs : (id ++ be 4 n).size = 20 := by rw [ByteArray.size_append, be_size, hid16]
  have hcat : id.size + (be 4 n).size ≤ 9223372036854775807 := by rw [be_size, hid16]; decide
  rw [Int.toNat_natCast]
  obtain ⟨hd2, hhd⟩ : ∃ t, Ots.head id.data.toList n = t := ⟨_, rfl⟩
  rw [hhd]
  rw [hhd] at hd
  obtain ⟨H, hH⟩ : ∃ H, id ++ be 4 n = H := ⟨_, rfl⟩
  rw [hH] at hd hhs
  have hd' := hid hd.out
  have hp100 := ho.p100
  have hw8 := ho.w8
  have hw1 := ho.w1
  have htop : o.top ≤ 255 := by
    have := Nat.pow_le_pow_right (n := 2) (by omega) hw8
    unfold Ots.Par.top
    omega
  obtain ⟨X, hX⟩ : ∃ X, H ++ (⟨#[255, 253, 255]⟩ : ByteArray) ++ seed = X := ⟨_, rfl⟩
  have h3 : (⟨#[255, 253, 255]⟩ : ByteArray).size = 3 := rfl
  have hXl : X.data.toList = hd2 ++ [255, 253, 255] ++ seed.data.toList := by rw [← hX, data_append, data_append, hd'.out]
  have hXs : X.size = 55 := by rw [← hX, ByteArray.size_append, ByteArray.size_append, h3, hhs, hs32]
  have z1 : H.size + (⟨#[255, 253, 255]⟩ : ByteArray).size ≤ 9223372036854775807 := by rw [h3, hhs]; decide
  have z2 : (H ++ ⟨#[255, 253, 255]⟩).size + seed.size ≤ 9223372036854775807 := by rw [ByteArray.size_append, h3, hhs, hs32]; decide
  have hrH := hid (fun W => rH_any X W (by omega))
  rw [hXl, salt_eq] at hrH
  obtain ⟨sl, hsl⟩ : ∃ sl, Ots.salt hd2 seed.data.toList = sl := ⟨_, rfl⟩
  have hsl32 : sl.length = 32 := by rw [← hsl]; exact sha_len32 _
  have hdg := hid (fun W => rDigits_any kind o m hpar ho H (txt sl) msg W (by omega) (by rw [txt_size, hsl32]; decide) (by omega))
  rw [hsl] at hrH
  rw [hd'.out, txt_list] at hdg
  obtain ⟨D, hD⟩ : ∃ D, Ots.digits o hd2 sl msg.data.toList = D := ⟨_, rfl⟩
  rw [hD] at hdg
  have hDp : D.length = o.p := by rw [← hD]; exact digits_len o m ho _ _ _
  have hDt : ∀ i, D.getD i 0 ≤ o.top := fun i => by rw [← hD]; exact Ots.digits_le o _ _ _ i
  obtain ⟨f, hf⟩ : ∃ f : Nat → List UInt8, Ots.chain o hd2 seed.data.toList msg.data.toList = f := ⟨_, rfl⟩
  have hfe : ∀ i, f i = Ots.steps hd2 i 0 (D.getD i 0) (Ots.priv hd2 i seed.data.toList) := fun i => by
    rw [← hf, ← hD, ← hsl]
    rfl
  have hsg : Ots.sign o kind.toNat hd2 seed.data.toList msg.data.toList = beL 4 kind.toNat ++ (sl ++ ((List.range o.p).map f).flatten) := by rw [Ots.sign_eq, hsl, hf]
  have hwk : ∀ (i : Nat) W, i < 1000000 → Calls Try.prog 82 #[.string H, .int .i64 (i : Int), .int .i64 0, .int .i64 ((D.getD i 0 : Nat) : Int), .string (txt (Ots.priv hd2 i seed.data.toList))] W fun e w' => e = .returned (.string (txt (f i))) ∧ Below W.heap.size W w' := fun i W hi => by
    have h := rSteps_any H i 0 (D.getD i 0) (Ots.priv hd2 i seed.data.toList) W (sha_len32 _) (by omega) hi (by have := hDt i; omega) (by omega)
    rw [hd.out, Nat.sub_zero, ← hfe] at h
    exact h
  have hpv : ∀ (i : Nat) W, i < 1000000 → Calls Try.prog 83 #[.string H, .int .i64 (i : Int), .string seed] W fun e w' => e = .returned (.string (txt (Ots.priv hd2 i seed.data.toList))) ∧ Below W.heap.size W w' := fun i W hi => by
    have h := rPriv_any H seed i W hi (by omega) (by omega)
    rw [hd.out] at h
    exact h
  have hf32 : ∀ i, (f i).length = 32 := fun i => by
    rw [hfe]
    exact steps_len _ _ _ _ (sha_len32 _) _
  have hbe := hid (fun W => Be_any (n : Int) 4 4 rfl (by decide) n rfl (by omega) W)
  have hbk := hid (fun W => Be_any kind 4 4 rfl (by decide) kind.toNat hkn (by omega) W)
  rw [hsg]
  obtain ⟨fl, hfl⟩ : ∃ fl : Nat → List UInt8, (fun k => beL 4 kind.toNat ++ (sl ++ ((List.range k).map f).flatten)) = fl := ⟨_, rfl⟩
  have hfl0 : fl 0 = beL 4 kind.toNat ++ sl := by rw [← hfl]; simp
  have hflp : beL 4 kind.toNat ++ (sl ++ ((List.range o.p).map f).flatten) = fl o.p := by rw [← hfl]
  have hfl32 : ∀ k, (fl k).length = 36 + 32 * k := fun k => by
    rw [← hfl]
    simp only [List.length_append, beL_length, hsl32, Ots.flat32 f hf32 k]
    omega
  have hfln : ∀ k, fl (k + 1) = fl k ++ f k := fun k => by
    rw [← hfl]
    simp only [Ots.flat_next f k, List.append_assoc]
  rw [hflp]
  have hwk' := hid hwk
  have hpv' := hid hpv
  have hf32' := hid hf32
  have hfl0' := hid hfl0
  have hfl32' := hid hfl32
  have hfln' := hid hfln
  have hDp' := hid hDp
  have hDt' := hid hDt
  obtain ⟨T0, hT0⟩ : ∃ T0, be 4 kind.toNat ++ txt sl = T0 := ⟨_, rfl⟩
  have hT0l : T0.data.toList = fl 0 := by rw [← hT0, data_append, txt_list, hfl0]; rfl
  have hT0s : T0.size = 36 := by rw [← hT0, ByteArray.size_append, be_size, txt_size, hsl32]
  have z3 : (be 4 kind.toNat).size + (txt sl).size ≤ 9223372036854775807 := by rw [be_size, txt_size, hsl32]; decide
  have hT0l' := hid hT0l
  have hT0s' := hid hT0s
  have hhs' := hid hhs
  have hx0 : ((o.w : Int) == 0) = false := by
    simp
    omega
  have hs0 : ((seed.size : Int) != 32) = false := by simp; omega
  have hs0' : ((seed.size : Int) == 32) = true := by simp; omega
  have hb0 : decide ((65536 : Int) < (msg.size : Int)) = false := by simp; omega
  clear hans hgood hpar hwk hpv hf32 hf hfe hhd hd ho hfl hflp hfl0 hfl32 hfln hXl hXs hDp hDt hD hsg hsl hT0l hT0s hsl32 hkn hhs
  generalize kind.toNat = kn at *
  go_enter Try.func44, Try.ntmps44
  go_wp2_with fail
  refine (Params_any kind _).mono ?_
  rintro e W2 ⟨rfl, rfl⟩
  rw [hans'.out]
  rename_i hK1
  refine hK1 _ _ ?_
  clear hK1
  go_wp2_with (go_at_call 80; refine (otsMay_any id _ _).mono ?_; rintro e W2 ⟨rfl, rfl⟩; rw [hm])
  refine (hbe.out _).mono ?_
  rintro e W3 ⟨rfl, hb3⟩
  have hB3 := hid hb3
  clear hb3
  go_wp2_with fail
  refine (hrH.out _).mono ?_
  rintro e W4 ⟨rfl, hb4⟩
  have hB4 := hid (hB3.out.trans (hb4.mono hB3.out.size))
  clear hb4
  go_wp2_with fail
  refine (hdg.out _).mono ?_
  rintro e W5 ⟨gD, cD, rfl, hgD, hN5, hb5⟩
  have hB5 := hid (hB4.out.trans (hb5.mono hB4.out.size))
  have hgD' := hid (Nat.le_trans hB4.out.size hgD)
  have hN5' := hid hN5
  clear hb5 hgD hN5
  go_wp2_with fail
  refine (hbk.out _).mono ?_
  rintro e W6 ⟨rfl, hb6⟩
  have hN6 := hid (hN5'.out.below hb6 hN5'.out.lt)
  have hB6 := hid (hB5.out.trans (hb6.mono hB5.out.size))
  clear hb6
  obtain ⟨c0, W7, hcv, hR7, hb7⟩ := run_bytes_row (P := Try.prog) W6 9 49 5 T0 Try.underlying9 Try.underlying49 Try.underlying5 (by have := hT0s'.out; omega)
  have hP7 := hid (SgnR.start hN6.out hgD'.out hB6.out hR7 hb7)
  clear hR7 hb7
  go_wp2_with fail
  clear hT0 hcv
  generalize W6.heap.size = g0 at *
  go_loopw [18, 19] (fun out i wr => ∃ (k : Nat) (T : ByteArray) (g c : Nat), k ≤ o.p ∧ i = .int .i64 (k : Int) ∧ out = .slice (some ⟨g, 0, none⟩) T.size c ∧ T.data.toList = fl k ∧ SgnR W2 wr D gD T g c) (fun _ i _ => o.p - (intOf i).toNat)
  case atStart => exact ⟨0, T0, _, _, Nat.zero_le _, rfl, rfl, hT0l'.out, hP7.out⟩
  case round =>
    obtain ⟨k, T, g, c, hk, rfl, rfl, hT, hP⟩ := hrel
    have hTs : T.size = 36 + 32 * k := by rw [← data_length, hT, hfl32'.out k]
    have hP' := hid hP
    have hT' := hid hT
    have hTs' := hid hTs
    clear hP hT hTs
    by_cases hlt : k < o.p
    · have hkp : (k : Int) < (o.p : Int) := by omega
      have hk0 : (0 : Int) ≤ (k : Int) := by omega
      have hwk := hid (fun W => hwk'.out k W (by omega))
      have hpv := hid (fun W => hpv'.out k W (by omega))
      have hfk := hf32'.out k
      have hnx := hfln'.out k
      have hTn : (T ++ txt (f k)).data.toList = fl (k + 1) := by rw [txt_append, hT'.out, hnx]
      have hTn' := hid hTn
      have hfs : (txt (f k)).size = 32 := by rw [txt_size, hfk]
      have hDk : D[k]? = some (D.getD k 0) := by
        have := hDp'.out
        rw [List.getD, List.getElem?_eq_getElem (by omega)]
        rfl
      have hDk' := hid hDk
      clear hTn hnx hDk
      generalize Ots.priv hd2 k seed.data.toList = pv at *
      generalize f k = fk at *
      obtain ⟨d, hd0⟩ : ∃ d, D.getD k 0 = d := ⟨_, rfl⟩
      rw [hd0] at hwk hDk'
      clear hd0
      have hPd := hid (hP'.out.below (Below.refl _ _).drew)
      have hcd := hid (hPd.out.d.cell hDk'.out)
      go_wp2_with fail
      refine wp_region_held_drew (S := fun w' => w'.cell? ⟨gD, k, none⟩ = some (.int .i64 (d : Int))) (by kernel_rfl) (by exact hcd.out) (fun hHeld => ?_)
      refine tkn 0 (.slice (some ⟨g, 0, none⟩) T.size c) rfl (by kernel_rfl) (fun _ _ _ h => h) (yieldsIf_move _ rfl rfl rfl) hHeld ?_
      simp only [ly, Act.put]
      refine tkn 1 (.string H) rfl (by kernel_rfl) (fun _ _ _ h => h) (yieldsIf_move _ rfl rfl rfl) hHeld ?_
      simp only [ly, Act.put]
      refine tkn 2 (.int .i64 (k : Int)) rfl (by kernel_rfl) (fun _ _ _ h => h) (yieldsIf_move _ rfl rfl rfl) hHeld ?_
      simp only [ly, Act.put]
      refine tkn 3 (.slice (some ⟨gD, 0, none⟩) o.p cD) rfl (by kernel_rfl) (fun _ _ _ h => h) (yieldsIf_move _ rfl rfl rfl) hHeld ?_
      simp only [ly, Act.put]
      refine tkn 4 (.int .i64 (k : Int)) rfl (by kernel_rfl) (fun _ _ _ h => h) (yieldsIf_move _ rfl rfl rfl) hHeld ?_
      simp only [ly, Act.put]
      refine tkn 5 (.pointer (some ⟨gD, k, none⟩)) rfl (by kernel_rfl) (fun _ _ _ h => h) (.inl ⟨by kernel_rfl, fun w _ => by go_simp⟩) hHeld ?_
      simp only [ly, Act.put]
      refine tkn 6 (.int .i64 (d : Int)) rfl (by kernel_rfl) (fun _ _ _ h => h) (.inl ⟨by kernel_rfl, fun w hw => by have hw' : w.cell? ⟨gD, k, none⟩ = some (.int .i64 (d : Int)) := hw; go_simp⟩) hHeld ?_
      simp only [ly, Act.put]
      refine tkn 7 (.string H) rfl (by kernel_rfl) (fun _ _ _ h => h) (yieldsIf_move _ rfl rfl rfl) hHeld ?_
      simp only [ly, Act.put]
      refine tkn 8 (.int .i64 (k : Int)) rfl (by kernel_rfl) (fun _ _ _ h => h) (yieldsIf_move _ rfl rfl rfl) hHeld ?_
      simp only [ly, Act.put]
      refine tkn 9 (.string seed) rfl (by kernel_rfl) (fun _ _ _ h => h) (yieldsIf_move _ rfl rfl rfl) hHeld ?_
      simp only [ly, Act.put]
      refine wpAnyH_ready (rs := [10]) (by kernel_rfl) (by simp) (AllReadyH.cons rfl (fun K hK => ?_) AllReadyH.nil)
      have hK' := hid hK
      clear hK
      rw [if_pos (by kernel_rfl)]
      simp only [ly1, ly2, ly3]
      go_simp
      refine (hpv.out _).mono ?_
      rintro e W8 ⟨rfl, hb8⟩
      have hP8 := hid (hPd.out.below hb8)
      clear hb8
      refine hK'.out _ _ (by exact hP8.out.d.cell hDk'.out) (fun hHeld => ?_)
      clear hK' K
      refine wpAnyH_ready (rs := [11]) (by kernel_rfl) (by simp) (AllReadyH.cons rfl (fun K hK => ?_) AllReadyH.nil)
      have hK' := hid hK
      clear hK
      rw [if_pos (by kernel_rfl)]
      simp only [ly1, ly2, ly3]
      go_simp
      refine (hwk.out _).mono ?_
      rintro e W9 ⟨rfl, hb9⟩
      have hP9 := hid (hP8.out.below hb9)
      clear hb9
      refine hK'.out _ _ (by exact hP9.out.d.cell hDk'.out) (fun hHeld => ?_)
      clear hK' K
      refine wpAnyH_ready (rs := [12]) (by kernel_rfl) (by simp) (AllReadyH.cons rfl (fun K hK => ?_) AllReadyH.nil)
      have hK' := hid hK
      clear hK
      rw [if_pos (by kernel_rfl)]
      simp only [ly1, ly2, ly3]
      refine wp_append_rowB (.tmp 69) (.tmp 80) 49 9 rfl 5 i0 Try.underlying49 Try.underlying9 hi hz0 hz1 hz2 T (txt fk) g c rfl rfl hP9.out.row (by have := hTs'.out; omega) _ rfl ?_
      intro g' c' W10 hR10 hg10 hf10
      have hP10 := hid (hP9.out.more hR10 hg10 hf10)
      clear hR10 hg10 hf10
      refine hK'.out _ _ (by exact hP10.out.d.cell hDk'.out) (fun hHeld => ?_)
      clear hK' K
      simp only [ly, Act.put]
      refine tkn 13 (.slice (some ⟨g', 0, none⟩) (T ++ txt fk).size c') rfl (by kernel_rfl) (fun _ _ _ h => h) (yieldsIf_assign _ rfl rfl rfl) hHeld ?_
      simp only [ly, Act.put]
      refine wpAnyH_done (by kernel_rfl) ?_ _
      go_wp2_with fail
      go_roundw
      case rel => exact ⟨k + 1, T ++ txt fk, g', c', by omega, by go_num, rfl, hTn'.out, hP10.out⟩
      case measure => simp [intOf]; omega
    · obtain rfl : k = o.p := by omega
      have hcv2 := run_convert_rowB (P := Try.prog) 49 9 Try.underlying49 Try.underlying5 Try.underlying9 (n := T.size) rfl hP'.out.row
      have hno : ¬ ((o.p : Nat) : Int) < (o.p : Int) := by omega
      have hTe : T = txt (fl o.p) := bytes_ext (by rw [hT'.out, txt_list])
      have hTe' := hid hTe
      clear hTe
      go_wp2_with fail
      go_ret2
      exact ⟨by rw [← hTe'.out]; rfl, hP'.out.b⟩

theorem rSign_any (kind q : Int) (id seed msg : ByteArray) (hms : msg.size ≤ 140737488351232) (w : World) :
    Calls Try.prog 44 #[.int .i64 kind, .string id, .int .i64 q, .string seed, .string msg] w fun e w' => e = .returned (.tuple #[.string (signAns kind q id seed msg).1, .int .i64 (signAns kind q id seed msg).2]) ∧ Below w.heap.size w w' := by
  cases hg : otsGood kind q id seed with
  | none =>
    have e : signAns kind q id seed msg = (⟨#[]⟩, 400) := by unfold signAns; rw [hg]
    rw [e]
    exact rSign_bad kind q id seed msg (.inl hg) hms w
  | some o =>
    by_cases h : msg.size ≤ 65536
    · have e : signAns kind q id seed msg = (txt (Ots.sign o kind.toNat (Ots.head id.data.toList q.toNat) seed.data.toList msg.data.toList), 0) := by unfold signAns; rw [hg]; simp only [if_pos h]
      rw [e]
      exact rSign_good kind q id seed msg o hg h w
    · have e : signAns kind q id seed msg = (⟨#[]⟩, 400) := by unfold signAns; rw [hg]; simp only [if_neg h]
      rw [e]
      exact rSign_bad kind q id seed msg (.inr (by omega)) hms w

end Go.Proofs.Ytmfajekfipfjpaa
