/- Layer 4, the reference's side: OtsPublic, the answer.
   Layer 4, the reference's side: digits, num.
   Layer 4, the reference's side: OtsSign. -/
import Derived.Test.YtmfajekfipfjpaaGreatOtsRd
import Derived.Test.YtmfajekfipfjpaaGreatOtsB
set_option maxRecDepth 100000
namespace Go.Proofs.YtmfajekfipfjpaaGreat
open Go.RowKit
open Go.Lib (strCells strCells_length strCells_oneCell)
attribute [local irreducible] Sha.compress Sha.blocks Sha.sha Sha.pad
end Go.Proofs.YtmfajekfipfjpaaGreat
namespace Go.Proofs.YtmfajekfipfjpaaGreat
open Go.RowKit
open Go.Lib (strCells strCells_length strCells_oneCell)
attribute [local irreducible] Sha.compress Sha.blocks Sha.sha Sha.pad

/-- What lies where while the reference gathers. -/
structure PubR (w wr : World) (T : ByteArray) (g c : Nat) : Prop where
  r : Holds wr w.heap.size 60 z32.toList
  row : RowB wr 5 T g c
  lo : w.heap.size < g
  b : Below w.heap.size w wr

theorem PubR.below {w wr w' : World} {T : ByteArray} {g c : Nat} (h : PubR w wr T g c) (hb : Below wr.heap.size wr w') : PubR w w' T g c :=
  ⟨h.r.below hb h.r.lt, h.row.below hb h.row.lt, h.lo, h.b.trans (hb.mono h.b.size)⟩

theorem PubR.more {w wr w' : World} {T T' : ByteArray} {g c g' c' : Nat} (h : PubR w wr T g c) (hR : RowB w' 5 T' g' c') (hg : wr.grownBy w' (some g)) (hf : g' = g ∨ wr.heap.size ≤ g') : PubR w w' T' g' c' := by
  have h1 := h.lo
  have h2 := h.r.lt
  refine ⟨h.r.grown hg (fun e => by have := Option.some.inj e; omega), hR, by omega, h.b.grown hg h.b.size (fun k e => by have := Option.some.inj e; omega)⟩

/-- A row that a text was turned into. -/
theorem PubR.start {w wr w' : World} {T : ByteArray} {c : Nat} (hr : Holds wr w.heap.size 60 z32.toList) (hb : Below w.heap.size w wr) (hR : RowB w' 5 T wr.heap.size c) (hb' : Below wr.heap.size wr w') : PubR w w' T wr.heap.size c :=
  ⟨hr.below hb' hr.lt, hR, hr.lt, hb.trans (hb'.mono hb.size)⟩

set_option maxHeartbeats 2000000 in
theorem rPublic_good (kind q : Int) (id seed : ByteArray) (o : Ots.Par) (hgood : otsGood kind q id seed = some o) (w : World) :
    Calls Tryz.prog 55 #[.int .i64 kind, .string id, .int .i64 q, .string seed] w fun e w' => e = .returned (.tuple #[hv (Ots.pub o (Ots.head id.data.toList q.toNat) seed.data.toList), .int .i64 0]) ∧ Below w.heap.size w w' := by
  obtain ⟨i0, hi, hz0, hz1, hz2⟩ := info_parts Tryz.infoU8
  obtain ⟨hpar, hm, hs32⟩ := good_parts hgood
  obtain ⟨hid16, n, rfl, hn⟩ := may_parts hm
  obtain ⟨m, ho⟩ := par_ok hpar
  have hans : refPar kind = .tuple #[.int .i64 (o.w : Int), .int .i64 (o.p : Int), .int .i64 (o.ls : Int)] := by unfold refPar; rw [hpar]
  have hans' := hid hans
  have hd := hid (head_list id n)
  have hhs : (id ++ be 4 n).size = 20 := by rw [ByteArray.size_append, be_size, hid16]
  have hcat : id.size + (be 4 n).size ≤ 9223372036854775807 := by rw [be_size, hid16]; decide
  rw [Int.toNat_natCast]
  obtain ⟨hd2, hhd⟩ : ∃ t, Ots.head id.data.toList n = t := ⟨_, rfl⟩
  rw [hhd]
  rw [hhd] at hd
  obtain ⟨H, hH⟩ : ∃ H, id ++ be 4 n = H := ⟨_, rfl⟩
  rw [hH] at hd hhs
  have hH' := hid hH
  have hdl : hd2.length = 20 := by rw [← hd.out, data_length, hhs]
  have hp100 := ho.p100
  have hw8 := ho.w8
  have hw1 := ho.w1
  have htopw := top_wrap2 o.w hw8
  have htop : o.top ≤ 255 := by
    have := Nat.pow_le_pow_right (n := 2) (by omega) hw8
    unfold Ots.Par.top
    omega
  have htd : o.top = 2 ^ o.w - 1 := rfl
  rw [← htd] at htopw
  have htw := hid htopw
  obtain ⟨f, hf⟩ : ∃ f : Nat → List UInt8, (fun i => Ots.steps hd2 i 0 o.top (Ots.priv hd2 i seed.data.toList)) = f := ⟨_, rfl⟩
  have hpub : Ots.pub o hd2 seed.data.toList = Sha.sha (hd2 ++ [0x80, 0x80] ++ ((List.range o.p).map f).flatten) := by rw [← hf]; rfl
  have hwk : ∀ (i : Nat) W, i < 1000000 → Calls Tryz.prog 76 #[.string H, .int .i64 (i : Int), .int .i64 0, .int .i64 (o.top : Int), .string (txt (Ots.priv hd2 i seed.data.toList))] W fun e w' => e = .returned (.string (txt (f i))) ∧ Below W.heap.size W w' := fun i W hi => by
    have h := rSteps_any H i 0 o.top (Ots.priv hd2 i seed.data.toList) W (sha_len32 _) (by omega) hi (by omega) (by omega)
    rw [hd.out, Nat.sub_zero] at h
    rw [← hf]
    exact h
  have hpv : ∀ (i : Nat) W, i < 1000000 → Calls Tryz.prog 77 #[.string H, .int .i64 (i : Int), .string seed] W fun e w' => e = .returned (.string (txt (Ots.priv hd2 i seed.data.toList))) ∧ Below W.heap.size W w' := fun i W hi => by
    have h := rPriv_any H seed i W hi (by omega) (by omega)
    rw [hd.out] at h
    exact h
  have hf32 : ∀ i, (f i).length = 32 := fun i => by
    rw [← hf]
    exact steps_len _ _ _ _ (sha_len32 _) _
  have hflat := hid (fun k => Ots.flat32 f hf32 k)
  have hnext := hid (fun k => Ots.flat_next f k)
  have hbe := hid (fun W => Be_any (n : Int) 4 4 rfl (by decide) n rfl (by omega) W)
  rw [hpub]
  obtain ⟨fl, hfl⟩ : ∃ fl : Nat → List UInt8, (fun k => ((List.range k).map f).flatten) = fl := ⟨_, rfl⟩
  have hfl0 : fl 0 = [] := by rw [← hfl]; rfl
  have hflp : ((List.range o.p).map f).flatten = fl o.p := by rw [← hfl]
  have hfl32 : ∀ k, (fl k).length = 32 * k := fun k => by rw [← hfl]; exact hflat.out k
  have hfln : ∀ k, fl (k + 1) = fl k ++ f k := fun k => by rw [← hfl]; exact hnext.out k
  rw [hflp]
  have hwk' := hid hwk
  have hpv' := hid hpv
  have hf32' := hid hf32
  have hfl0' := hid hfl0
  have hfl32' := hid hfl32
  have hfln' := hid hfln
  obtain ⟨W1, hW1⟩ : ∃ W1, w.alloc (.cells z32 60) = W1 := ⟨_, rfl⟩
  have hH1 : Holds W1 w.heap.size 60 z32.toList := by rw [← hW1]; exact Holds.new w _ _
  have hb1 : Below w.heap.size w W1 := by rw [← hW1]; exact (Below.refl _ _).alloc (Nat.le_refl _) _
  have hW1' := hid hW1
  have hH1' := hid hH1
  have hb1' := hid hb1
  have hd' := hid hd.out
  clear hW1 hH1 hb1 hans hgood hpar hwk hpv hf32 hf hpub hhd hd ho htd htopw hfl hflp hfl0 hfl32 hfln hflat hnext
  have h8080 : (⟨#[128, 128]⟩ : ByteArray).size = 2 := rfl
  have hcat2 : H.size + (⟨#[128, 128]⟩ : ByteArray).size ≤ 9223372036854775807 := by rw [hhs, h8080]; decide
  obtain ⟨T0, hT0⟩ : ∃ T0, H ++ (⟨#[128, 128]⟩ : ByteArray) = T0 := ⟨_, rfl⟩
  have hT0l : T0.data.toList = hd2 ++ [0x80, 0x80] := by rw [← hT0, data_append, hd'.out]
  have hT0s : T0.size = 22 := by rw [← data_length, hT0l]; simp [hdl]
  have hT0l' := hid hT0l
  have hT0s' := hid hT0s
  clear hT0l hT0s
  have hx0 : ((o.w : Int) == 0) = false := by
    simp
    omega
  have hs0 : ((seed.size : Int) != 32) = false := by simp; omega
  have hs0' : ((seed.size : Int) == 32) = true := by simp; omega
  go_enter Tryz.func55, Tryz.ntmps55
  go_wp2_with ((with_reducible refine at_slot (some 8) ?_); refine wpList_run rfl (.pointer (some ⟨w.heap.size, 0, none⟩)) (w.alloc (.cells z32 60)) (by kernel_rfl) ?_; rw [hW1'.out])
  refine (Params_any kind _).mono ?_
  rintro e W2 ⟨rfl, rfl⟩
  rw [hans'.out]
  rename_i hK1
  refine hK1 _ _ ?_
  clear hK1
  go_wp2_with (go_at_call 74; refine (otsMay_any id _ _).mono ?_; rintro e w' ⟨rfl, rfl⟩; rw [hm])
  refine (hbe.out _).mono ?_
  rintro e W3 ⟨rfl, hb3⟩
  have hH3 := hid (hH1'.out.below hb3 hH1'.out.lt)
  have hB3 := hid (hb1'.out.trans (hb3.mono hb1'.out.size))
  clear hb3
  obtain ⟨c0, W4, hcv, hR4, hb4⟩ := run_bytes_row (P := Tryz.prog) W3 9 65 5 T0 Tryz.underlying9 Tryz.underlying65 Tryz.underlying5 (by have := hT0s'.out; omega)
  have hP4 := hid (PubR.start hH3.out hB3.out hR4 hb4)
  clear hR4 hb4
  go_wp2_with fail
  clear hT0 hcv
  generalize W3.heap.size = g0 at *
  go_loopw [14, 15] (fun out i wr => ∃ (k : Nat) (T : ByteArray) (g c : Nat), k ≤ o.p ∧ i = .int .i64 (k : Int) ∧ out = .slice (some ⟨g, 0, none⟩) T.size c ∧ T.data.toList = hd2 ++ [0x80, 0x80] ++ fl k ∧ PubR w wr T g c) (fun _ i _ => o.p - (intOf i).toNat)
  case atStart => exact ⟨0, T0, _, _, Nat.zero_le _, rfl, rfl, by rw [hT0l'.out, hfl0'.out, List.append_nil], hP4.out⟩
  case round =>
    obtain ⟨k, T, g, c, hk, rfl, rfl, hT, hP⟩ := hrel
    have hTs : T.size = 22 + 32 * k := by
      rw [← data_length, hT, List.length_append, hfl32'.out k]
      simp [hdl]
    have hP' := hid hP
    have hT' := hid hT
    have hTs' := hid hTs
    clear hP hT hTs
    by_cases hlt : k < o.p
    · have hkp : (k : Int) < (o.p : Int) := by omega
      have hk0 : (0 : Int) ≤ (k : Int) := by omega
      have hwk := hid (fun W => hwk'.out k W (by omega))
      have hpv := hid (fun W => hpv'.out k W (by omega))
      have hfk := hf32'.out k
      have hnx := hfln'.out k
      have hTn : (T ++ txt (f k)).data.toList = hd2 ++ [0x80, 0x80] ++ fl (k + 1) := by rw [txt_append, hT'.out, hnx]; simp only [List.append_assoc]
      have hTn' := hid hTn
      have hfs : (txt (f k)).size = 32 := by rw [txt_size, hfk]
      clear hTn hnx
      generalize Ots.priv hd2 k seed.data.toList = pv at *
      generalize f k = fk at *
      have hPd := hid (hP'.out.below (Below.refl _ _).drew)
      go_wp2_with fail
      refine wp_region_held_drew (S := fun _ => True) (by kernel_rfl) (by exact True.intro) (fun zH => ?_)
      refine tkn 0 (.slice (some ⟨g, 0, none⟩) T.size c) rfl (by kernel_rfl) (fun _ _ _ h => h) (yieldsIf_move _ rfl rfl rfl) zH ?_
      simp only [lp]
      refine tkn 1 (.string H) rfl (by kernel_rfl) (fun _ _ _ h => h) (yieldsIf_move _ rfl rfl rfl) zH ?_
      simp only [lp]
      refine tkn 2 (.int .i64 (k : Int)) rfl (by kernel_rfl) (fun _ _ _ h => h) (yieldsIf_move _ rfl rfl rfl) zH ?_
      simp only [lp]
      refine tkn 3 (.int .i64 (o.w : Int)) rfl (by kernel_rfl) (fun _ _ _ h => h) (yieldsIf_move _ rfl rfl rfl) zH ?_
      simp only [lp]
      refine tkn 4 (.int .i64 (IntKind.i64.wrap (2 ^ o.w))) rfl (by kernel_rfl) (fun _ _ _ h => h) (.inl ⟨by kernel_rfl, fun w _ => by go_simp⟩) zH ?_
      simp only [lp]
      refine tkn 5 (.int .i64 (o.top : Int)) rfl (by kernel_rfl) (fun _ _ _ h => h) (.inl ⟨by kernel_rfl, fun w _ => by go_simp; exact htw.out⟩) zH ?_
      simp only [lp]
      refine tkn 6 (.string H) rfl (by kernel_rfl) (fun _ _ _ h => h) (yieldsIf_move _ rfl rfl rfl) zH ?_
      simp only [lp]
      refine tkn 7 (.int .i64 (k : Int)) rfl (by kernel_rfl) (fun _ _ _ h => h) (yieldsIf_move _ rfl rfl rfl) zH ?_
      simp only [lp]
      refine tkn 8 (.string seed) rfl (by kernel_rfl) (fun _ _ _ h => h) (yieldsIf_move _ rfl rfl rfl) zH ?_
      simp only [lp]
      refine wpAnyH_ready (rs := [9]) (by kernel_rfl) (by simp) (AllReadyH.cons rfl (fun K hK => ?_) AllReadyH.nil)
      have hK' := hid hK
      clear hK
      rw [if_pos (by kernel_rfl)]
      simp only [ly1, ly2, ly3]
      go_simp
      refine (hpv.out _).mono ?_
      rintro e W5 ⟨rfl, hb5⟩
      have hP5 := hid (hPd.out.below hb5)
      clear hb5
      refine hK'.out _ _ (by exact True.intro) (fun zH => ?_)
      clear hK' K
      refine wpAnyH_ready (rs := [10]) (by kernel_rfl) (by simp) (AllReadyH.cons rfl (fun K hK => ?_) AllReadyH.nil)
      have hK' := hid hK
      clear hK
      rw [if_pos (by kernel_rfl)]
      simp only [ly1, ly2, ly3]
      go_simp
      refine (hwk.out _).mono ?_
      rintro e W6 ⟨rfl, hb6⟩
      have hP6 := hid (hP5.out.below hb6)
      clear hb6
      refine hK'.out _ _ (by exact True.intro) (fun zH => ?_)
      clear hK' K
      refine wpAnyH_ready (rs := [11]) (by kernel_rfl) (by simp) (AllReadyH.cons rfl (fun K hK => ?_) AllReadyH.nil)
      have hK' := hid hK
      clear hK
      rw [if_pos (by kernel_rfl)]
      simp only [ly1, ly2, ly3]
      refine wp_append_rowB (.tmp 48) (.tmp 58) 65 9 rfl 5 i0 Tryz.underlying65 Tryz.underlying9 hi hz0 hz1 hz2 T (txt fk) g c rfl rfl hP6.out.row (by have := hTs'.out; omega) _ rfl ?_
      intro g' c' W7 hR7 hg7 hf7
      have hP7 := hid (hP6.out.more hR7 hg7 hf7)
      clear hR7 hg7 hf7
      refine hK'.out _ _ (by exact True.intro) (fun zH => ?_)
      clear hK' K
      simp only [lp]
      refine tkn 12 (.slice (some ⟨g', 0, none⟩) (T ++ txt fk).size c') rfl (by kernel_rfl) (fun _ _ _ h => h) (yieldsIf_assign _ rfl rfl rfl) zH ?_
      simp only [lp]
      refine wpAnyH_done (by kernel_rfl) ?_ _
      go_wp2_with fail
      go_roundw
      case rel => exact ⟨k + 1, T ++ txt fk, g', c', by omega, by go_num, rfl, hTn'.out, hP7.out⟩
      case measure => simp [intOf]; omega
    · obtain rfl : k = o.p := by omega
      have hcv2 := run_convert_rowB (P := Tryz.prog) 65 9 Tryz.underlying65 Tryz.underlying5 Tryz.underlying9 (n := T.size) rfl hP'.out.row
      have hsh := hid (fun W => rsha_any T W (by have := hTs'.out; omega))
      rw [hT'.out] at hsh
      have hno : ¬ ((o.p : Nat) : Int) < (o.p : Int) := by omega
      have hgl : (Sha.sha (hd2 ++ [0x80, 0x80] ++ fl o.p)).length = 32 := sha_len32 _
      unfold hashV at hsh
      obtain ⟨out, hout⟩ : ∃ out, Sha.sha (hd2 ++ [0x80, 0x80] ++ fl o.p) = out := ⟨_, rfl⟩
      rw [hout] at hsh hgl
      have hout' := hid hout
      clear hout
      have hsf := hv_size out hgl
      have h1f := all_oneCell_toArray (byteCells_one out)
      go_wp2_with fail
      refine (hsh.out _).mono ?_
      rintro e W5 ⟨rfl, hb5⟩
      have hP5 := hid (hP'.out.below hb5)
      have hth5 := hv_put out (by decide) hP5.out.r hgl
      have hr6 := hid hth5.2
      have hth6 := hth5.1
      have hb6 := hid (below_setCells hP5.out.b w.heap.size 0 (byteCells out) (Nat.le_refl _))
      clear hb5 hth5
      rename_i hK1
      refine hK1 _ _ ?_
      clear hK1
      refine wpList_store_mid rfl 60 (.tmp 8) (.tmp 62) rfl w.heap.size 0 (byteCells out).toArray rfl rfl (by exact hth6) (by exact hsf) (by exact h1f) ?_
      generalize hW6 : World.setCells _ _ _ _ = W6
      have e6 : W5.setCells w.heap.size 0 (byteCells out) = W6 := hW6
      rw [e6] at hr6 hb6
      clear hW6 e6 hth6
      go_wp2_with fail
      exact bodyPost_ret (results_ct rfl _ _ w.heap.size 60 _ (0, 0) _ rfl hr6.out (.int .i64 0) rfl Tryz.underlying60 rfl (by exact hsf)) rfl ⟨by rw [hout'.out]; rfl, hb6.out⟩

end Go.Proofs.YtmfajekfipfjpaaGreat
namespace Go.Proofs.YtmfajekfipfjpaaGreat
open Go.RowKit
open Go.Lib (strCells strCells_length strCells_oneCell)
attribute [local irreducible] Sha.compress Sha.blocks Sha.sha Sha.pad

end Go.Proofs.YtmfajekfipfjpaaGreat
namespace Go.Proofs.YtmfajekfipfjpaaGreat
open Go.RowKit
open Go.Lib (strCells strCells_length strCells_oneCell)
attribute [local irreducible] Sha.compress Sha.blocks Sha.sha Sha.pad

/-- What lies where while the reference signs. -/
structure SgnR (w wr : World) (D : List Nat) (gD : Nat) (T : ByteArray) (g c : Nat) : Prop where
  d : Nums wr gD D
  row : RowB wr 5 T g c
  lo : w.heap.size ≤ gD
  lg : gD < g
  b : Below w.heap.size w wr

theorem SgnR.below {w wr w' : World} {D : List Nat} {gD : Nat} {T : ByteArray} {g c : Nat} (h : SgnR w wr D gD T g c) (hb : Below wr.heap.size wr w') : SgnR w w' D gD T g c :=
  ⟨h.d.below hb h.d.lt, h.row.below hb h.row.lt, h.lo, h.lg, h.b.trans (hb.mono h.b.size)⟩

theorem SgnR.more {w wr w' : World} {D : List Nat} {gD : Nat} {T T' : ByteArray} {g c g' c' : Nat} (h : SgnR w wr D gD T g c) (hR : RowB w' 5 T' g' c') (hg : wr.grownBy w' (some g)) (hf : g' = g ∨ wr.heap.size ≤ g') : SgnR w w' D gD T' g' c' := by
  have h1 := h.lo
  have h2 := h.lg
  have h3 := h.row.lt
  refine ⟨h.d.of_block (hg.block gD (by omega) (fun e => by have := Option.some.inj e; omega)), hR, h1, by omega, h.b.grown hg h.b.size (fun k e => by have := Option.some.inj e; omega)⟩

theorem SgnR.start {w wr w' : World} {D : List Nat} {gD : Nat} {T : ByteArray} {c : Nat} (hd : Nums wr gD D) (hlo : w.heap.size ≤ gD) (hb : Below w.heap.size w wr) (hR : RowB w' 5 T wr.heap.size c) (hb' : Below wr.heap.size wr w') : SgnR w w' D gD T wr.heap.size c :=
  ⟨hd.below hb' hd.lt, hR, hlo, hd.lt, hb.trans (hb'.mono hb.size)⟩

theorem salt_eq (head seed : List UInt8) : Sha.sha (head ++ [255, 253, 255] ++ seed) = Ots.salt head seed := by
  have e : beL 2 0xfffd = [255, 253] := by decide
  unfold Ots.salt Ots.priv
  rw [e]
  congr 1
  simp only [List.append_assoc]
  rfl

set_option maxHeartbeats 2000000 in
theorem rSign_good (kind q : Int) (id seed msg : ByteArray) (o : Ots.Par) (hgood : otsGood kind q id seed = some o) (hms : msg.size ≤ 65536) (w : World) :
    Calls Tryz.prog 47 #[.int .i64 kind, .string id, .int .i64 q, .string seed, .string msg] w fun e w' => e = .returned (.tuple #[.string (txt (Ots.sign o kind.toNat (Ots.head id.data.toList q.toNat) seed.data.toList msg.data.toList)), .int .i64 0]) ∧ Below w.heap.size w w' := by
  obtain ⟨i0, hi, hz0, hz1, hz2⟩ := info_parts Tryz.infoU8
  obtain ⟨hpar, hm, hs32⟩ := good_parts hgood
  obtain ⟨hid16, n, rfl, hn⟩ := may_parts hm
  obtain ⟨m, ho⟩ := par_ok hpar
  obtain ⟨hkn, hk4⟩ := kind_nat hpar
  have hans : refPar kind = .tuple #[.int .i64 (o.w : Int), .int .i64 (o.p : Int), .int .i64 (o.ls : Int)] := by unfold refPar; rw [hpar]
  have hans' := hid hans
  have hd := hid (head_list id n)
  have hhs : (id ++ be 4 n).size = 20 := by rw [ByteArray.size_append, be_size, hid16]
  have hcat : id.size + (be 4 n).size ≤ 9223372036854775807 := by rw [be_size, hid16]; decide
  rw [Int.toNat_natCast]
  obtain ⟨hd2, hhd⟩ : ∃ t, Ots.head id.data.toList n = t := ⟨_, rfl⟩
  rw [hhd]
  rw [hhd] at hd
  obtain ⟨H, hH⟩ : ∃ H, id ++ be 4 n = H := ⟨_, rfl⟩
  rw [hH] at hd hhs
  have hd' := hid hd.out
  have hp100 := ho.p100
  have hw8 := ho.w8
  have hw1 := ho.w1
  have htop : o.top ≤ 255 := by
    have := Nat.pow_le_pow_right (n := 2) (by omega) hw8
    unfold Ots.Par.top
    omega
  obtain ⟨X, hX⟩ : ∃ X, H ++ (⟨#[255, 253, 255]⟩ : ByteArray) ++ seed = X := ⟨_, rfl⟩
  have h3 : (⟨#[255, 253, 255]⟩ : ByteArray).size = 3 := rfl
  have hXl : X.data.toList = hd2 ++ [255, 253, 255] ++ seed.data.toList := by rw [← hX, data_append, data_append, hd'.out]
  have hXs : X.size = 55 := by rw [← hX, ByteArray.size_append, ByteArray.size_append, h3, hhs, hs32]
  have z1 : H.size + (⟨#[255, 253, 255]⟩ : ByteArray).size ≤ 9223372036854775807 := by rw [h3, hhs]; decide
  have z2 : (H ++ ⟨#[255, 253, 255]⟩).size + seed.size ≤ 9223372036854775807 := by rw [ByteArray.size_append, h3, hhs, hs32]; decide
  have hrH := hid (fun W => rH_any X W (by omega))
  rw [hXl, salt_eq] at hrH
  obtain ⟨sl, hsl⟩ : ∃ sl, Ots.salt hd2 seed.data.toList = sl := ⟨_, rfl⟩
  have hsl32 : sl.length = 32 := by rw [← hsl]; exact sha_len32 _
  have hdg := hid (fun W => rDigits_any kind o m hpar ho H (txt sl) msg W (by omega) (by rw [txt_size, hsl32]; decide) (by omega))
  rw [hsl] at hrH
  rw [hd'.out, txt_list] at hdg
  obtain ⟨D, hD⟩ : ∃ D, Ots.digits o hd2 sl msg.data.toList = D := ⟨_, rfl⟩
  rw [hD] at hdg
  have hDp : D.length = o.p := by rw [← hD]; exact digits_len o m ho _ _ _
  have hDt : ∀ i, D.getD i 0 ≤ o.top := fun i => by rw [← hD]; exact Ots.digits_le o _ _ _ i
  obtain ⟨f, hf⟩ : ∃ f : Nat → List UInt8, Ots.chain o hd2 seed.data.toList msg.data.toList = f := ⟨_, rfl⟩
  have hfe : ∀ i, f i = Ots.steps hd2 i 0 (D.getD i 0) (Ots.priv hd2 i seed.data.toList) := fun i => by
    rw [← hf, ← hD, ← hsl]
    rfl
  have hsg : Ots.sign o kind.toNat hd2 seed.data.toList msg.data.toList = beL 4 kind.toNat ++ (sl ++ ((List.range o.p).map f).flatten) := by rw [Ots.sign_eq, hsl, hf]
  have hwk : ∀ (i : Nat) W, i < 1000000 → Calls Tryz.prog 76 #[.string H, .int .i64 (i : Int), .int .i64 0, .int .i64 ((D.getD i 0 : Nat) : Int), .string (txt (Ots.priv hd2 i seed.data.toList))] W fun e w' => e = .returned (.string (txt (f i))) ∧ Below W.heap.size W w' := fun i W hi => by
    have h := rSteps_any H i 0 (D.getD i 0) (Ots.priv hd2 i seed.data.toList) W (sha_len32 _) (by omega) hi (by have := hDt i; omega) (by omega)
    rw [hd.out, Nat.sub_zero, ← hfe] at h
    exact h
  have hpv : ∀ (i : Nat) W, i < 1000000 → Calls Tryz.prog 77 #[.string H, .int .i64 (i : Int), .string seed] W fun e w' => e = .returned (.string (txt (Ots.priv hd2 i seed.data.toList))) ∧ Below W.heap.size W w' := fun i W hi => by
    have h := rPriv_any H seed i W hi (by omega) (by omega)
    rw [hd.out] at h
    exact h
  have hf32 : ∀ i, (f i).length = 32 := fun i => by
    rw [hfe]
    exact steps_len _ _ _ _ (sha_len32 _) _
  have hbe := hid (fun W => Be_any (n : Int) 4 4 rfl (by decide) n rfl (by omega) W)
  have hbk := hid (fun W => Be_any kind 4 4 rfl (by decide) kind.toNat hkn (by omega) W)
  rw [hsg]
  obtain ⟨fl, hfl⟩ : ∃ fl : Nat → List UInt8, (fun k => beL 4 kind.toNat ++ (sl ++ ((List.range k).map f).flatten)) = fl := ⟨_, rfl⟩
  have hfl0 : fl 0 = beL 4 kind.toNat ++ sl := by rw [← hfl]; simp
  have hflp : beL 4 kind.toNat ++ (sl ++ ((List.range o.p).map f).flatten) = fl o.p := by rw [← hfl]
  have hfl32 : ∀ k, (fl k).length = 36 + 32 * k := fun k => by
    rw [← hfl]
    simp only [List.length_append, beL_length, hsl32, Ots.flat32 f hf32 k]
    omega
  have hfln : ∀ k, fl (k + 1) = fl k ++ f k := fun k => by
    rw [← hfl]
    simp only [Ots.flat_next f k, List.append_assoc]
  rw [hflp]
  have hwk' := hid hwk
  have hpv' := hid hpv
  have hf32' := hid hf32
  have hfl0' := hid hfl0
  have hfl32' := hid hfl32
  have hfln' := hid hfln
  have hDp' := hid hDp
  have hDt' := hid hDt
  obtain ⟨T0, hT0⟩ : ∃ T0, be 4 kind.toNat ++ txt sl = T0 := ⟨_, rfl⟩
  have hT0l : T0.data.toList = fl 0 := by rw [← hT0, data_append, txt_list, hfl0]; rfl
  have hT0s : T0.size = 36 := by rw [← hT0, ByteArray.size_append, be_size, txt_size, hsl32]
  have z3 : (be 4 kind.toNat).size + (txt sl).size ≤ 9223372036854775807 := by rw [be_size, txt_size, hsl32]; decide
  have hT0l' := hid hT0l
  have hT0s' := hid hT0s
  have hhs' := hid hhs
  have hx0 : ((o.w : Int) == 0) = false := by
    simp
    omega
  have hs0 : ((seed.size : Int) != 32) = false := by simp; omega
  have hs0' : ((seed.size : Int) == 32) = true := by simp; omega
  have hb0 : decide ((65536 : Int) < (msg.size : Int)) = false := by simp; omega
  clear hans hgood hpar hwk hpv hf32 hf hfe hhd hd ho hfl hflp hfl0 hfl32 hfln hXl hXs hDp hDt hD hsg hsl hT0l hT0s hsl32 hkn hhs
  generalize kind.toNat = kn at *
  go_enter Tryz.func47, Tryz.ntmps47
  go_wp2_with fail
  refine (Params_any kind _).mono ?_
  rintro e W2 ⟨rfl, rfl⟩
  rw [hans'.out]
  rename_i hK1
  refine hK1 _ _ ?_
  clear hK1
  go_wp2_with (go_at_call 74; refine (otsMay_any id _ _).mono ?_; rintro e W2 ⟨rfl, rfl⟩; rw [hm])
  refine (hbe.out _).mono ?_
  rintro e W3 ⟨rfl, hb3⟩
  have hB3 := hid hb3
  clear hb3
  go_wp2_with fail
  refine (hrH.out _).mono ?_
  rintro e W4 ⟨rfl, hb4⟩
  have hB4 := hid (hB3.out.trans (hb4.mono hB3.out.size))
  clear hb4
  go_wp2_with fail
  refine (hdg.out _).mono ?_
  rintro e W5 ⟨gD, cD, rfl, hgD, hN5, hb5⟩
  have hB5 := hid (hB4.out.trans (hb5.mono hB4.out.size))
  have hgD' := hid (Nat.le_trans hB4.out.size hgD)
  have hN5' := hid hN5
  clear hb5 hgD hN5
  go_wp2_with fail
  refine (hbk.out _).mono ?_
  rintro e W6 ⟨rfl, hb6⟩
  have hN6 := hid (hN5'.out.below hb6 hN5'.out.lt)
  have hB6 := hid (hB5.out.trans (hb6.mono hB5.out.size))
  clear hb6
  obtain ⟨c0, W7, hcv, hR7, hb7⟩ := run_bytes_row (P := Tryz.prog) W6 9 65 5 T0 Tryz.underlying9 Tryz.underlying65 Tryz.underlying5 (by have := hT0s'.out; omega)
  have hP7 := hid (SgnR.start hN6.out hgD'.out hB6.out hR7 hb7)
  clear hR7 hb7
  go_wp2_with fail
  clear hT0 hcv
  generalize W6.heap.size = g0 at *
  go_loopw [18, 19] (fun out i wr => ∃ (k : Nat) (T : ByteArray) (g c : Nat), k ≤ o.p ∧ i = .int .i64 (k : Int) ∧ out = .slice (some ⟨g, 0, none⟩) T.size c ∧ T.data.toList = fl k ∧ SgnR W2 wr D gD T g c) (fun _ i _ => o.p - (intOf i).toNat)
  case atStart => exact ⟨0, T0, _, _, Nat.zero_le _, rfl, rfl, hT0l'.out, hP7.out⟩
  case round =>
    obtain ⟨k, T, g, c, hk, rfl, rfl, hT, hP⟩ := hrel
    have hTs : T.size = 36 + 32 * k := by rw [← data_length, hT, hfl32'.out k]
    have hP' := hid hP
    have hT' := hid hT
    have hTs' := hid hTs
    clear hP hT hTs
    by_cases hlt : k < o.p
    · have hkp : (k : Int) < (o.p : Int) := by omega
      have hk0 : (0 : Int) ≤ (k : Int) := by omega
      have hwk := hid (fun W => hwk'.out k W (by omega))
      have hpv := hid (fun W => hpv'.out k W (by omega))
      have hfk := hf32'.out k
      have hnx := hfln'.out k
      have hTn : (T ++ txt (f k)).data.toList = fl (k + 1) := by rw [txt_append, hT'.out, hnx]
      have hTn' := hid hTn
      have hfs : (txt (f k)).size = 32 := by rw [txt_size, hfk]
      have hDk : D[k]? = some (D.getD k 0) := by
        have := hDp'.out
        rw [List.getD, List.getElem?_eq_getElem (by omega)]
        rfl
      have hDk' := hid hDk
      clear hTn hnx hDk
      generalize Ots.priv hd2 k seed.data.toList = pv at *
      generalize f k = fk at *
      obtain ⟨d, hd0⟩ : ∃ d, D.getD k 0 = d := ⟨_, rfl⟩
      rw [hd0] at hwk hDk'
      clear hd0
      have hPd := hid (hP'.out.below (Below.refl _ _).drew)
      have hcd := hid (hPd.out.d.cell hDk'.out)
      go_wp2_with fail
      refine wp_region_held_drew (S := fun w' => w'.cell? ⟨gD, k, none⟩ = some (.int .i64 (d : Int))) (by kernel_rfl) (by exact hcd.out) (fun zH => ?_)
      refine tkn 0 (.slice (some ⟨g, 0, none⟩) T.size c) rfl (by kernel_rfl) (fun _ _ _ h => h) (yieldsIf_move _ rfl rfl rfl) zH ?_
      simp only [lp]
      refine tkn 1 (.string H) rfl (by kernel_rfl) (fun _ _ _ h => h) (yieldsIf_move _ rfl rfl rfl) zH ?_
      simp only [lp]
      refine tkn 2 (.int .i64 (k : Int)) rfl (by kernel_rfl) (fun _ _ _ h => h) (yieldsIf_move _ rfl rfl rfl) zH ?_
      simp only [lp]
      refine tkn 3 (.slice (some ⟨gD, 0, none⟩) o.p cD) rfl (by kernel_rfl) (fun _ _ _ h => h) (yieldsIf_move _ rfl rfl rfl) zH ?_
      simp only [lp]
      refine tkn 4 (.int .i64 (k : Int)) rfl (by kernel_rfl) (fun _ _ _ h => h) (yieldsIf_move _ rfl rfl rfl) zH ?_
      simp only [lp]
      refine tkn 5 (.pointer (some ⟨gD, k, none⟩)) rfl (by kernel_rfl) (fun _ _ _ h => h) (.inl ⟨by kernel_rfl, fun w _ => by go_simp⟩) zH ?_
      simp only [lp]
      refine tkn 6 (.int .i64 (d : Int)) rfl (by kernel_rfl) (fun _ _ _ h => h) (.inl ⟨by kernel_rfl, fun w hw => by have hw' : w.cell? ⟨gD, k, none⟩ = some (.int .i64 (d : Int)) := hw; go_simp⟩) zH ?_
      simp only [lp]
      refine tkn 7 (.string H) rfl (by kernel_rfl) (fun _ _ _ h => h) (yieldsIf_move _ rfl rfl rfl) zH ?_
      simp only [lp]
      refine tkn 8 (.int .i64 (k : Int)) rfl (by kernel_rfl) (fun _ _ _ h => h) (yieldsIf_move _ rfl rfl rfl) zH ?_
      simp only [lp]
      refine tkn 9 (.string seed) rfl (by kernel_rfl) (fun _ _ _ h => h) (yieldsIf_move _ rfl rfl rfl) zH ?_
      simp only [lp]
      refine wpAnyH_ready (rs := [10]) (by kernel_rfl) (by simp) (AllReadyH.cons rfl (fun K hK => ?_) AllReadyH.nil)
      have hK' := hid hK
      clear hK
      rw [if_pos (by kernel_rfl)]
      simp only [ly1, ly2, ly3]
      go_simp
      refine (hpv.out _).mono ?_
      rintro e W8 ⟨rfl, hb8⟩
      have hP8 := hid (hPd.out.below hb8)
      clear hb8
      refine hK'.out _ _ (by exact hP8.out.d.cell hDk'.out) (fun zH => ?_)
      clear hK' K
      refine wpAnyH_ready (rs := [11]) (by kernel_rfl) (by simp) (AllReadyH.cons rfl (fun K hK => ?_) AllReadyH.nil)
      have hK' := hid hK
      clear hK
      rw [if_pos (by kernel_rfl)]
      simp only [ly1, ly2, ly3]
      go_simp
      refine (hwk.out _).mono ?_
      rintro e W9 ⟨rfl, hb9⟩
      have hP9 := hid (hP8.out.below hb9)
      clear hb9
      refine hK'.out _ _ (by exact hP9.out.d.cell hDk'.out) (fun zH => ?_)
      clear hK' K
      refine wpAnyH_ready (rs := [12]) (by kernel_rfl) (by simp) (AllReadyH.cons rfl (fun K hK => ?_) AllReadyH.nil)
      have hK' := hid hK
      clear hK
      rw [if_pos (by kernel_rfl)]
      simp only [ly1, ly2, ly3]
      refine wp_append_rowB (.tmp 69) (.tmp 80) 65 9 rfl 5 i0 Tryz.underlying65 Tryz.underlying9 hi hz0 hz1 hz2 T (txt fk) g c rfl rfl hP9.out.row (by have := hTs'.out; omega) _ rfl ?_
      intro g' c' W10 hR10 hg10 hf10
      have hP10 := hid (hP9.out.more hR10 hg10 hf10)
      clear hR10 hg10 hf10
      refine hK'.out _ _ (by exact hP10.out.d.cell hDk'.out) (fun zH => ?_)
      clear hK' K
      simp only [lp]
      refine tkn 13 (.slice (some ⟨g', 0, none⟩) (T ++ txt fk).size c') rfl (by kernel_rfl) (fun _ _ _ h => h) (yieldsIf_assign _ rfl rfl rfl) zH ?_
      simp only [lp]
      refine wpAnyH_done (by kernel_rfl) ?_ _
      go_wp2_with fail
      go_roundw
      case rel => exact ⟨k + 1, T ++ txt fk, g', c', by omega, by go_num, rfl, hTn'.out, hP10.out⟩
      case measure => simp [intOf]; omega
    · obtain rfl : k = o.p := by omega
      have hcv2 := run_convert_rowB (P := Tryz.prog) 65 9 Tryz.underlying65 Tryz.underlying5 Tryz.underlying9 (n := T.size) rfl hP'.out.row
      have hno : ¬ ((o.p : Nat) : Int) < (o.p : Int) := by omega
      have hTe : T = txt (fl o.p) := bytes_ext (by rw [hT'.out, txt_list])
      have hTe' := hid hTe
      clear hTe
      go_wp2_with fail
      go_ret2
      exact ⟨by rw [← hTe'.out]; rfl, hP'.out.b⟩

end Go.Proofs.YtmfajekfipfjpaaGreat
