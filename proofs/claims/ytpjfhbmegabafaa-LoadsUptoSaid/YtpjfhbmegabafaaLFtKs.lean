/- Layer 12, the reference's side: LoadFile. -/
import Derived.Test.YtpjfhbmegabafaaLFtKr
namespace Go.Proofs.Ytpjfhbmegabafaa
open Go.RowKit
open Go.Lib (strCells strCells_length strCells_oneCell)
attribute [local irreducible] Sha.compress Sha.blocks Sha.sha Sha.pad

/-- The three answers. -/
def ansT : Option (ByteArray × List (List UInt8)) → ByteArray × List (List UInt8) × Int
  | none => (⟨#[]⟩, [], 1200)
  | some (d, want) => if want = [] then (d, [], 0) else (⟨#[]⟩, want, 1201)
def LoadIs (D : ByteArray) (want : List (List UInt8)) (E : Int) (w : World) (e : Ending) (w' : World) : Prop := ∃ A c, e = .returned (.tuple #[.string D, .slice A want.length c, .int .i64 E]) ∧ Hashs w' w'.heap.size A want.length want ∧ Below w.heap.size w w'
noncomputable def fin3 : Option (List ByteArray × List (List UInt8)) → Option (ByteArray × List (List UInt8))
  | none => none
  | some (c, u) => if u = [] then some (catT c, []) else some (⟨#[]⟩, unlikeH u)
noncomputable def load3 (get : List UInt8 → Option ByteArray) (size : Nat) (hs : List (List UInt8)) : Option (ByteArray × List (List UInt8)) := fin3 (lvl get (mayB size) 0 hs [] [])
noncomputable def load2 (get : List UInt8 → Option ByteArray) (size : Nat) (hs : List (List UInt8)) : Option (ByteArray × List (List UInt8)) := match lvl get (mayI (cutN 64 size)) 0 hs [] [] with
  | none => none
  | some (b, v) => if v = [] then load3 get size (pcsL b) else some (⟨#[]⟩, unlikeH v)
section
variable {get : List UInt8 → Option ByteArray} {root : List UInt8} {size : Nat} {x : ByteArray}
theorem loadT_one : loadT get root size = match lvl get (mayR (cutN 8 (cutN 64 size))) 0 [root] [] [] with
  | none => none
  | some (a, w) => if w = [] then load2 get size (pcsL a) else some (⟨#[]⟩, unlikeH w) := rfl
theorem ldr_none (h : get root = none) : loadT get root size = some (⟨#[]⟩, [root]) := by
  rw [loadT_one, lvl_want h, lvl]
  show (if ([] ++ [root] : List (List UInt8)) = [] then _ else _) = _
  rw [if_neg (by simp)]
  rfl
theorem ldr_bad1 (h : get root = some x) (hb : isNodeT x ⟨#[82]⟩ (cutN 8 (cutN 64 size)) = false) : loadT get root size = none := by
  rw [loadT_one, lvl_bad h hb]
theorem ldr_ok1 (h : get root = some x) (hb : isNodeT x ⟨#[82]⟩ (cutN 8 (cutN 64 size)) = true) : loadT get root size = load2 get size (pcs (insideT x)) := by
  rw [loadT_one, lvl_in h hb, lvl]
  show (if ([] : List (List UInt8)) = [] then _ else _) = _
  rw [if_pos rfl]
  congr 1
  unfold pcsL
  simp
end
theorem catT_snoc (xs : List ByteArray) (y : ByteArray) : catT (xs ++ [y]) = catT xs ++ y := by
  apply bytes_ext
  unfold catT
  rw [ByteArray.data_append, Array.toList_append]
  simp
theorem hashs_nil (w : World) : Hashs w w.heap.size none 0 [] := ⟨⟨rfl, .inl rfl⟩, fun _ h => (List.not_mem_nil h).elim⟩
section
variable {d D : ByteArray} {want want' : List (List UInt8)} {E : Int}
theorem ans_none (h : ansT none = (D, want, E)) : D = ⟨#[]⟩ ∧ want = [] ∧ E = 1200 := by
  injection h with h1 h2
  injection h2 with h2 h3
  exact ⟨h1.symm, h2.symm, h3.symm⟩
theorem ans_ok (h : ansT (some (d, [])) = (D, want, E)) : D = d ∧ want = [] ∧ E = 0 := by
  have h : (d, ([] : List (List UInt8)), (0 : Int)) = (D, want, E) := h
  injection h with h1 h2
  injection h2 with h2 h3
  exact ⟨h1.symm, h2.symm, h3.symm⟩
theorem ans_want (hn : want' ≠ []) (h : ansT (some (d, want')) = (D, want, E)) : D = ⟨#[]⟩ ∧ want = want' ∧ E = 1201 := by
  have h : (if want' = [] then (d, [], 0) else (⟨#[]⟩, want', 1201)) = (D, want, E) := h
  rw [if_neg hn] at h
  injection h with h1 h2
  injection h2 with h2 h3
  exact ⟨h1.symm, h2.symm, h3.symm⟩
end
/-- What LoadFile holds in its rounds. -/
structure LfAt (w W : World) (q nb : Nat) (bs : List (List UInt8)) (A2 : Option Addr) (k2 c2 : Nat) (wn : List (List UInt8)) (i : Nat) : Prop where
  wts : W.ownsRow w.heap.size 33 32 (.slice A2 k2 c2) k2 (hashCells (unlikeH wn))
  w32 : ∀ p ∈ unlikeH wn, p.length = 32
  row : 0 < nb → RowH W q bs
  apart : 0 < nb → (Value.slice A2 k2 c2).ownBlock ≠ some q
  bel : Below w.heap.size w W
  wlen : k2 ≤ i
section
variable {w W W' : World} {q nb k2 c2 i : Nat} {bs wn : List (List UInt8)} {A2 : Option Addr}
theorem LfAt.on (h : LfAt w W q nb bs A2 k2 c2 wn i) (hb : Below W.heap.size W W') : LfAt w W' q nb bs A2 k2 c2 wn i :=
  ⟨rown_onF h.wts hb, h.w32, fun hn => (h.row hn).on (hb.block q (h.row hn).lt), h.apart, h.bel.trans (hb.mono h.bel.size), h.wlen⟩
theorem LfAt.next (h : LfAt w W q nb bs A2 k2 c2 wn i) : LfAt w W q nb bs A2 k2 c2 wn (i + 1) := ⟨h.wts, h.w32, h.row, h.apart, h.bel, Nat.le_succ_of_le h.wlen⟩
theorem LfAt.want {A' : Option Addr} {k' c' : Nat} {x : List UInt8} (h : LfAt w W q nb bs A2 k2 c2 wn i) (hx : x.length = 32) (hr : W'.ownsRow w.heap.size 33 32 (.slice A' k' c') k' (hashCells (addH (unlikeH wn) x)))
    (hg : W.grownBy W' (Value.slice A2 k2 c2).ownBlock) (hf : Fresh W (Value.slice A2 k2 c2).ownBlock (Value.slice A' k' c').ownBlock) : LfAt w W' q nb bs A' k' c' (wn ++ [x]) (i + 1) := by
  have h32 : ∀ p ∈ addH (unlikeH wn) x, p.length = 32 := fun p hp => by
    rcases addH_mem hp with hp | rfl
    · exact h.w32 p hp
    · exact hx
  refine ⟨by rw [unlikeH_snoc]; exact hr, by rw [unlikeH_snoc]; exact h32, fun hn => (h.row hn).on (hg.block q (h.row hn).lt (fun e => h.apart hn e.symm)), fun hn e => ?_, below_own h.bel h.bel.size (fun q e => (h.wts.lt q e).1) hg, ?_⟩
  · rcases hf with e2 | ⟨j, e2, hj⟩
    · exact h.apart hn (e2.symm.trans e)
    · have := (h.row hn).lt
      have : j = q := Option.some.inj (e2.symm.trans e)
      omega
  · have h1 := (own_hashs hr h32).len
    have h2 := (own_hashs h.wts h.w32).len
    have h3 := addH_len (unlikeH wn) x
    have := h.wlen
    omega
end
set_option maxRecDepth 100000 in
set_option maxHeartbeats 2000000 in
theorem loadFile_any (B r : Nat) (m : Obs) (hsm : ∀ k x, obGet m k = some x → x.size ≤ 65536) (root : List UInt8) (hr32 : root.length = 32) (size : Nat) (hsz : size ≤ 4096) (D : ByteArray) (want : List (List UInt8)) (E : Int) (hT : ansT (loadT (obGet m) root size) = (D, want, E)) (w : World) (hK : KnAt w B r m) :
    Calls Try.prog 32 #[.pointer (some ⟨r, 0, none⟩), .agg (byteCells root).toArray, .int .i64 (size : Int)] w (LoadIs D want E w) := by
  have hRC := hid (hash_cells root hr32)
  have hRs := hid (show (Try.prog.info? 33).map (·.size) = some (byteCells root).toArray.size from hRC.out.size)
  obtain ⟨g, hg⟩ : ∃ g, w.heap.size = g := ⟨_, rfl⟩
  obtain ⟨W0, hW0⟩ : ∃ V, w.alloc (.cells (byteCells root).toArray 33) = V := ⟨_, rfl⟩
  have hb0 : Below w.heap.size w W0 := by rw [← hW0]; exact (Below.refl _ _).alloc (Nat.le_refl _) _
  have hX0 := hid (show Holds W0 g 33 (byteCells root) from by rw [← hW0, ← hg]; exact Holds.new w 33 (byteCells root).toArray)
  have hXh := hid (show W0.heap[g]? = some (.cells (byteCells root).toArray 33 (0, 0)) from hX0.out)
  have hB0 := hid hb0
  have hK' := hid hK
  have hW0' := hid hW0
  have hg' := hid hg
  have hsm' := hid hsm
  have hr' := hid hr32
  have hsz' := hid hsz
  have hT' := hid hT
  have hs1 : ¬ (size : Int) < 0 := by omega
  have hs2 : ¬ (4096 : Int) < (size : Int) := by omega
  obtain ⟨bl, hbl⟩ : ∃ k, cutN 64 size = k := ⟨_, rfl⟩
  obtain ⟨mn, hmn⟩ : ∃ k, cutN 8 bl = k := ⟨_, rfl⟩
  have hb64 : bl ≤ 64 := by rw [← hbl]; unfold cutN; omega
  have hm8 : mn ≤ 8 := by rw [← hmn]; unfold cutN; omega
  have u3 : ((size : Int) + 64 - 1) / 64 = (bl : Int) := by rw [← hbl]; unfold cutN; omega
  have u4 : ((bl : Int) + 8 - 1) / 8 = (mn : Int) := by rw [← hmn]; unfold cutN; omega
  have hbl' := hid hbl
  have hmn' := hid hmn
  have hb64' := hid hb64
  have hm8' := hid hm8
  have u5 := IntWalk.i64_in ((bl : Int) + 8) (by omega)
  have u6 := IntWalk.i64_in ((bl : Int) + 8 - 1) (by omega)
  have u1 := IntWalk.i64_in ((size : Int) + 64) (by omega)
  have u2 := IntWalk.i64_in ((size : Int) + 64 - 1) (by omega)
  have hcall := knGet_any B r m root hr32 W0 (hK.on hb0)
  clear hW0 hg hb0 hK hsm hr32 hsz hT hbl hmn hb64 hm8
  go_enter Try.func32, Try.ntmps32
  go_wp2_with (first
    | ((with_reducible refine at_slot (some 4) ?_); refine wpList_run rfl (.pointer (some ⟨g, 0, none⟩)) (w.alloc (.cells (byteCells root).toArray 33)) (by rw [← hg'.out]; kernel_rfl) ?_; rw [hW0'.out])
    | ((with_reducible refine at_slot (some 38) ?_); refine wpList_load_row rfl 33 (.tmp 4) rfl g rfl 33 (byteCells root).toArray (0, 0) _ hXh.out Try.underlying33 rfl hRs.out ?_)
    | fail)
  cases hgr : obGet m root with
  | none =>
    rw [hgr] at hcall
    replace hcall : Calls Try.prog 58 #[.pointer (some ⟨r, 0, none⟩), .agg (byteCells root).toArray] W0 fun e w' => e = .returned (.tuple #[.string ⟨#[]⟩, .bool false]) ∧ Below W0.heap.size W0 w' := hcall
    refine hcall.mono ?_
    rintro e W1 ⟨rfl, hb1⟩
    have hX1 := hid (hX0.out.below hb1 hX0.out.lt)
    have hB1 := hid (hB0.out.trans (hb1.mono hB0.out.size))
    have ht := hT'.out
    rw [ldr_none hgr] at ht
    obtain ⟨rfl, rfl, rfl⟩ := ans_want (by simp) ht
    clear hT' ht hgr hcall hb1 hX0 hXh hB0
    go_wp2_with fail
    have hb : Below W1.heap.size W1 W1.drew := (Below.refl _ _).drew
    have hX2 := hid (hX1.out.below hb hX1.out.lt)
    have hB2 := hid (hB1.out.trans (hb.mono hB1.out.size))
    refine wp_region_held_drew (S := fun V => Holds V g 33 (byteCells root)) (by kernel_rfl) (by exact hX2.out) (fun hHeld => ?_)
    generalize W1.drew = W2 at *
    refine tkn 0 (.agg (byteCells root).toArray) rfl (by kernel_rfl) (fun _ _ _ h => h) (yieldsIf_load_any (by kernel_rfl) _ _ rfl ⟨g, 0, none⟩ rfl (byteCells root) _ (fun V hS => hS.anyO) Try.underlying33 rfl (by have := hRs.out; rwa [List.size_toArray] at this)) hHeld ?_
    simp only [ly, Act.put]
    refine tkx 2 (.string ⟨#[]⟩) hHeld ?_; simp only [ly, Act.put]
    refine wpAnyH_ready (rs := [1]) (by kernel_rfl) (by simp) (AllReadyH.cons rfl (fun K hK => ?_) AllReadyH.nil)
    have hK9 := hid hK
    clear hK
    rw [if_pos (by kernel_rfl)]
    simp only [ly1, ly2, ly3]
    obtain ⟨i0, hi0, hz0, hz1, hz2⟩ := info_parts Try.infoHashD
    refine wp_build_oneF 62 33 (.tmp 44) rfl i0 _ Try.underlying62 hi0 hz0 (byteCells root).toArray rfl (by rw [hz1, List.size_toArray, hRC.out.len]) (by rw [List.size_toArray, hRC.out.len]; decide) (by rw [List.size_toArray, hRC.out.len]; decide) ?_
    obtain ⟨W5, hW5⟩ : ∃ V, W2.alloc (.cells (byteCells root).toArray 33) = V := ⟨_, rfl⟩
    have hb5 : Below W2.heap.size W2 W5 := by rw [← hW5]; exact (Below.refl _ _).alloc (Nat.le_refl _) _
    have hnew := hid (show Holds W5 W2.heap.size 33 (byteCells root) from by rw [← hW5]; exact Holds.new W2 33 (byteCells root).toArray)
    have hX5 := hX2.out.below hb5 hX2.out.lt
    have hB5 := hid (hB2.out.trans (hb5.mono hB2.out.size))
    rw [hW5]
    refine hK9.out _ _ hX5 (fun hHeld => ?_)
    clear hK9 K hX5 hb5 hW5 hi0 hz0 hz1 hz2
    refine tkx 3 (.slice (some ⟨W2.heap.size, 0, none⟩) 1 1) hHeld ?_; simp only [ly, Act.put]
    refine tkx 4 (.int .i64 1201) hHeld ?_; simp only [ly, Act.put]
    refine wpAnyH_done (by kernel_rfl) ?_ _
    clear hHeld
    go_wp2_with fail
    refine bodyPost_ret (results_tmp3 rfl _ _ _) rfl ?_
    refine ⟨_, 1, rfl, ⟨⟨by rw [hashCells_length [root] (fun x hx => by rw [List.mem_singleton.1 hx]; exact hr'.out), Nat.mul_comm], .inr ⟨⟨W2.heap.size, 0, none⟩, rfl, hnew.out.lt, fun j hj => ?_⟩⟩, fun x hx => by rw [List.mem_singleton.1 hx]; exact hr'.out⟩, hB5.out⟩
    rw [Addr.add_mid, Nat.zero_add]
    have e : hashCells [root] = byteCells root := by unfold hashCells; simp
    rw [hnew.out.cell j]
    simp only [e]
    exact List.getElem?_eq_getElem (by rw [← e]; exact hj)
  | some x =>
    rw [hgr] at hcall
    replace hcall : Calls Try.prog 58 #[.pointer (some ⟨r, 0, none⟩), .agg (byteCells root).toArray] W0 fun e w' => e = .returned (.tuple #[.string x, .bool true]) ∧ Below W0.heap.size W0 w' := hcall
    refine hcall.mono ?_
    rintro e W1 ⟨rfl, hb1⟩
    have hx9 := hid (hsm'.out root x hgr)
    have hB1 := hid (hB0.out.trans (hb1.mono hB0.out.size))
    obtain ⟨y, hy⟩ : ∃ y, isNodeT x ⟨#[82]⟩ mn = y := ⟨_, rfl⟩
    have hc2 := hashesR_any x 82 mn (by decide) (by have := hm8'.out; omega) W1 (by have := hx9.out; omega)
    rw [hy] at hc2
    have hnb := hid (fun (h1 : y = false) => show loadT (obGet m) root size = none from ldr_bad1 hgr (by rw [hbl'.out, hmn'.out, hy, h1]))
    have hno := hid (fun (h1 : y = true) => show loadT (obGet m) root size = load2 (obGet m) size (pcs (insideT x)) from ldr_ok1 hgr (by rw [hbl'.out, hmn'.out, hy, h1]))
    have hni := hid (fun (h1 : y = true) => node_ok (by decide) (hy.trans h1))
    have hc2' := hid hc2
    clear hgr hcall hb1 hX0 hXh hB0 hy hc2
    go_wp2_with fail
    refine hc2'.out.mono ?_
    rintro e W2 ⟨hb2, hm2⟩
    have hB2 := hid (hB1.out.trans (hb2.mono hB1.out.size))
    clear hb2 hc2'
    cases y with
    | false =>
      obtain rfl := hm2
      have ht := hT'.out
      rw [hnb.out rfl] at ht
      obtain ⟨rfl, rfl, rfl⟩ := ans_none ht
      go_wp2_with fail
      refine bodyPost_ret (results_tmp3 rfl _ _ _) rfl ?_
      exact ⟨none, 0, rfl, hashs_nil _, hB2.out⟩
    | true =>
      obtain ⟨A5, n5, c5, rfl, hr5, hn5, h325⟩ := hm2
      have hT2 := hid (show ansT (load2 (obGet m) size (pcs (insideT x))) = (D, want, E) from by rw [← hno.out rfl]; exact hT'.out)
      have hn5m : n5 = mn := by rw [← hn5, pcs_len]; unfold cutN; rw [(hni.out rfl).2]; omega
      subst hn5m
      obtain ⟨hs, hhs⟩ : ∃ l, pcs (insideT x) = l := ⟨_, rfl⟩
      rw [hhs] at hT2 hr5 hn5 h325
      obtain ⟨b, hA5, hq5, -⟩ := own_rowH hr5
      obtain ⟨T2, hT2e⟩ : ∃ T, lvl (obGet m) (mayN 73 bl) 0 hs [] [] = T := ⟨_, rfl⟩
      have hc3 := rowsR_any B r m hsm'.out A5 b n5 c5 hs h325 hn5 hA5 73 (by decide) bl (fun i hi => (cutN_lt (by decide)).1 (by rw [hmn'.out]; exact hi)) (by have := hm8'.out; omega) (by have := hb64'.out; omega) W2 (hK'.out.on hB2.out) hq5
      rw [hT2e] at hc3
      have hc3' := hid hc3
      have hT2' := hid hT2
      have hT2e' := hid hT2e
      have hn5' := hid hn5
      clear hT' hnb hno hni hT2 hr5 hn5 h325 hA5 hq5 hc3 hT2e hhs
      go_wp2_with fail
      refine hc3'.out.mono ?_
      rintro e W3 ⟨hb3, hm3⟩
      have hB3 := hid (hB2.out.trans (hb3.mono hB2.out.size))
      have hB23 := hid hB2.out.size
      clear hb3 hc3'
      rcases T2 with _ | ⟨bb, v⟩
      · obtain rfl := hm3
        obtain ⟨rfl, rfl, rfl⟩ := ans_none (D := D) (want := want) (E := E) (by
          have := hT2'.out
          unfold load2 at this
          rw [hbl'.out, show (mayI bl) = mayN 73 bl from rfl, hT2e'.out] at this
          exact this)
        go_wp2_with fail
        refine bodyPost_ret (results_tmp3 rfl _ _ _) rfl ?_
        exact ⟨none, 0, rfl, hashs_nil _, hB3.out⟩
      · obtain ⟨A6, n6, c6, A7, n7, c7, rfl, hr6, hr7, h326, h327, hap⟩ := hm3
        have hT3 : ansT (if v = [] then load3 (obGet m) size (pcsL bb) else some (⟨#[]⟩, unlikeH v)) = (D, want, E) := by
          have := hT2'.out
          unfold load2 at this
          rw [hbl'.out, show (mayI bl) = mayN 73 bl from rfl, hT2e'.out] at this
          exact this
        have hl7 := (own_hashs hr7 h327).len
        by_cases hv : v = []
        · subst hv
          rw [if_pos rfl] at hT3
          have hl7z : n7 = 0 := hl7.symm
          subst hl7z
          have hrl := rows_len (get := obGet m) (hs := hs) (acc := bb) (blocks := bl) hT2e'.out (by rw [hn5'.out, hmn'.out])
          obtain ⟨bs, hbs⟩ : ∃ l, pcsL bb = l := ⟨_, rfl⟩
          rw [hbs] at hT3 hr6 h326 hrl
          have hl6 := (own_hashs hr6 h326).len
          have hn6 : n6 = bl := by rw [← hl6]; exact hrl.1
          subst hn6
          obtain ⟨q, hA6, hq6, hob6, -⟩ := own_rowH hr6
          obtain ⟨T3, hT3e⟩ : ∃ T, lvl (obGet m) (mayB size) 0 bs [] [] = T := ⟨_, rfl⟩
          have hT4 := hid (show ansT (fin3 T3) = (D, want, E) from by rw [← hT3e]; exact hT3)
          have hL3 := hid (show LfAt w W3 q n6 bs A7 0 c7 [] 0 from ⟨rown_low hr7 hB23.out, h327, hq6, fun hn => hap q (hob6 hn), hB3.out, Nat.zero_le _⟩)
          have hA6' := hid hA6
          have hl6' := hid hl6
          have h326' := hid h326
          have hT3e' := hid hT3e
          have hpos : ¬ (0 : Int) < ((0 : Nat) : Int) := by omega
          clear hT2' hT2e' hT3 hr6 hr7 h326 h327 hap hrl hl6 hl7 hA6 hq6 hob6 hT3e hbs hn5' hB3 hB23
          go_wp2_with fail
          go_loopw [16, 18, 19] (fun tx ox ix wr => ∃ (i : Nat) (A2 : Option Addr) (k2 c2 : Nat) (acc : List ByteArray) (wn : List (List UInt8)), i ≤ n6 ∧ tx = .slice A2 k2 c2 ∧ ox = .string (catT acc) ∧ ix = .int .i64 (i : Int) ∧ LfAt w wr q n6 bs A2 k2 c2 wn i ∧ Hid (lvl (obGet m) (mayB size) i (bs.drop i) acc wn = T3) ∧ Hid ((catT acc).size ≤ i * 64)) (fun _ _ ix _ => n6 - (intOf ix).toNat)
          case atStart => exact ⟨0, A7, 0, c7, [], [], Nat.zero_le _, rfl, rfl, rfl, hL3.out, hid hT3e'.out, hid (Nat.le_refl 0)⟩
          case round =>
            obtain ⟨i, A2, k2, c2, acc, wn, hi, rfl, rfl, rfl, hR, hTi, hcz⟩ := hrel
            have hR1 := hid hR
            clear hR
            by_cases hlt : i < n6
            · have hlt' : (i : Int) < (n6 : Int) := by omega
              have s3 : (0 : Int) ≤ (i : Int) := by omega
              have hiw := IntWalk.i64_in ((i : Int) + 1) (by have := hb64'.out; omega)
              obtain rfl := hA6'.out (by omega)
              obtain ⟨h, hh⟩ : ∃ h, bs[i]? = some h := ⟨_, List.getElem?_eq_getElem (by rw [hl6'.out]; exact hlt)⟩
              have hh32 := hid (h326'.out h (List.mem_of_getElem? hh))
              have hdrop : bs.drop i = h :: bs.drop (i + 1) := by
                obtain ⟨hj, e⟩ := List.getElem?_eq_some_iff.1 hh
                rw [List.drop_eq_getElem_cons hj, e]
              have hrg := hid (fun (V : World) (hV : RowH V q bs) => hV.range h326'.out hh)
              have hCs := hid (show (Try.prog.info? 33).map (·.size) = some (byteCells h).length from by have := (hash_cells h hh32.out).size; rwa [List.size_toArray] at this)
              have hTi' := hid (show lvl (obGet m) (mayB size) i (h :: bs.drop (i + 1)) acc wn = T3 from by rw [← hdrop]; exact hTi.out)
              have hpn := hid (show 0 < n6 from by omega)
              have hi64 := hid (show i * 64 < size from (cutN_lt (n := 64) (len := size) (i := i) (by decide)).1 (by rw [hbl'.out]; exact hlt))
              clear hh hdrop hTi
              have hw1 := IntWalk.i64_in ((i : Int) * 64) (by have := hb64'.out; omega)
              have hw2 := IntWalk.i64_in ((size : Int) - (i : Int) * 64) (by have := hb64'.out; have := hsz'.out; omega)
              have hcall := knGet_any B r m h hh32.out wr (hK'.out.on hR1.out.bel)
              go_wp2_with (first
                | ((with_reducible refine at_slot (some 81) ?_); refine wpList_load_mid rfl 33 (.tmp 80) rfl q (i * 32) (by go_simp) (byteCells h) _ (by exact hrg.out _ (hR1.out.row hpn.out)) Try.underlying33 rfl (by exact hCs.out) ?_)
                | fail)
              cases hg : obGet m h with
              | none =>
                rw [hg] at hcall
                replace hcall : Calls Try.prog 58 #[.pointer (some ⟨r, 0, none⟩), .agg (byteCells h).toArray] wr fun e w' => e = .returned (.tuple #[.string ⟨#[]⟩, .bool false]) ∧ Below wr.heap.size wr w' := hcall
                refine hcall.mono ?_
                rintro e W4 ⟨rfl, hb4⟩
                have hR2 := hid (hR1.out.on hb4)
                have hT5 := hid (show lvl (obGet m) (mayB size) (i + 1) (bs.drop (i + 1)) acc (wn ++ [h]) = T3 from by rw [← lvl_want hg]; exact hTi'.out)
                clear hb4 hR1 hTi' hg hcall
                have hB4 := hid (hR2.out.bel.size)
                go_wp2_with (first
                  | ((with_reducible refine at_slot (some 91) ?_); refine wpList_load_mid rfl 33 (.tmp 90) rfl q (i * 32) (by go_simp) (byteCells h) _ (by exact hrg.out _ (hR2.out.row hpn.out)) Try.underlying33 rfl (by exact hCs.out) ?_)
                  | fail)
                refine (onceHash_any w.heap.size A2 k2 c2 (unlikeH wn) h hh32.out hR2.out.w32 W4 hR2.out.wts hB4.out (by have := hR2.out.wlen; have := hb64'.out; omega)).mono ?_
                rintro e W5 ⟨A3, k3, c3, rfl, hr3, hg3, hf3⟩
                have hR3 := hid (hR2.out.want hh32.out hr3 hg3 hf3)
                clear hr3 hg3 hf3
                go_wp2_with fail
                go_roundw
                case rel => exact ⟨i + 1, A3, k3, c3, acc, wn ++ [h], by omega, rfl, rfl, by go_num, hR3.out, hT5, hid (by have := hcz.out; omega)⟩
                case measure => simp [intOf]; omega
              | some x2 =>
                rw [hg] at hcall
                replace hcall : Calls Try.prog 58 #[.pointer (some ⟨r, 0, none⟩), .agg (byteCells h).toArray] wr fun e w' => e = .returned (.tuple #[.string x2, .bool true]) ∧ Below wr.heap.size wr w' := hcall
                refine hcall.mono ?_
                rintro e W4 ⟨rfl, hb4⟩
                have hx2 := hid (hsm'.out h x2 hg)
                have hR2 := hid ((hR1.out.on hb4).next)
                obtain ⟨nb, hnb⟩ : ∃ k, min 64 (size - i * 64) = k := ⟨_, rfl⟩
                have hmin : min 64 ((size : Int) - (i : Int) * 64) = (nb : Int) := by have := hi64.out; omega
                have hnb9 : nb ≤ 64 := by omega
                have hw3 := IntWalk.i64_in (1 + (nb : Int)) (by omega)
                have hbad := hid (fun (h1 : isBlkT x2 nb = false) => show T3 = none from by rw [← hTi'.out]; exact lvl_bad hg (by unfold mayB; rw [hnb]; exact h1))
                have hok := hid (fun (h1 : isBlkT x2 nb = true) => show lvl (obGet m) (mayB size) (i + 1) (bs.drop (i + 1)) (acc ++ [insideT x2]) wn = T3 from by rw [← lvl_in hg (by unfold mayB; rw [hnb]; exact h1)]; exact hTi'.out)
                clear hb4 hR1 hTi' hg hcall hnb
                by_cases hz : x2.size = 1 + nb
                · have hd : ((x2.size : Int) != 1 + (nb : Int)) = false := by rw [bne_eq_false_iff_eq]; omega
                  have h1s : 1 ≤ x2.size := by omega
                  by_cases hmk : (x2.extract 0 1).toList = [66]
                  · have hmk2 : ((x2.extract 0 1).toList == [66]) = true := beq_iff_eq.2 hmk
                    have hT5 := hid (hok.out (by unfold isBlkT; rw [decide_eq_true hz, hmk2]; rfl))
                    have hin : insideT x2 = x2.extract 1 x2.size := by
                      unfold insideT
                      rw [if_pos]
                      apply bytes_ext
                      rw [← Lib.toList_data, hmk]
                    obtain ⟨s5, hs5⟩ : ∃ s, x2.extract 1 x2.size = s := ⟨_, rfl⟩
                    have hs5z : s5.size ≤ 64 := by rw [← hs5, ByteArray.size_extract]; omega
                    have hcz5 := hid (show (catT (acc ++ [insideT x2])).size ≤ (i + 1) * 64 from by rw [catT_snoc, ByteArray.size_append, hin, hs5]; have := hcz.out; omega)
                    have hcat := hid (show catT acc ++ s5 = catT (acc ++ [insideT x2]) from by rw [catT_snoc, hin, hs5])
                    have hsum : ¬ 9223372036854775807 < (catT acc).size + s5.size := by have := hcz.out; have := hb64'.out; omega
                    clear hbad hok hmk hz hin
                    go_wp2_with fail
                    go_roundw
                    case rel => exact ⟨i + 1, A2, k2, c2, acc ++ [insideT x2], wn, by omega, rfl, by rw [← hcat.out], by go_num, hR2.out, hT5, hcz5⟩
                    case measure => simp [intOf]; omega
                  · have hmk2 : ((x2.extract 0 1).toList == [66]) = false := beq_eq_false_iff_ne.2 hmk
                    have hT5 := hbad.out (by unfold isBlkT; rw [hmk2, Bool.and_false])
                    have ht := hT4.out
                    rw [hT5] at ht
                    obtain ⟨rfl, rfl, rfl⟩ := ans_none ht
                    clear hbad hok hmk hz ht hT5
                    go_wp2_with fail
                    refine bodyPost_ret (results_tmp3 rfl _ _ _) rfl ?_
                    exact ⟨none, 0, rfl, hashs_nil _, hR2.out.bel⟩
                · have hd : ((x2.size : Int) != 1 + (nb : Int)) = true := by rw [bne_iff_ne]; omega
                  have hT5 := hbad.out (by unfold isBlkT; rw [decide_eq_false hz, Bool.false_and])
                  have ht := hT4.out
                  rw [hT5] at ht
                  obtain ⟨rfl, rfl, rfl⟩ := ans_none ht
                  clear hbad hok hz ht hT5
                  go_wp2_with fail
                  refine bodyPost_ret (results_tmp3 rfl _ _ _) rfl ?_
                  exact ⟨none, 0, rfl, hashs_nil _, hR2.out.bel⟩
            · have hlt' : ¬ (i : Int) < (n6 : Int) := by omega
              obtain rfl : i = n6 := by omega
              have hTe : T3 = some (acc, wn) := by
                have := hTi.out
                rw [List.drop_of_length_le (by have := hl6'.out; omega), lvl] at this
                exact this.symm
              have ht := hT4.out
              rw [hTe] at ht
              replace ht : ansT (if wn = [] then some (catT acc, []) else some (⟨#[]⟩, unlikeH wn)) = (D, want, E) := ht
              have hH := hid (own_hashs hR1.out.wts hR1.out.w32)
              have hk2 := hH.out.len
              clear hTi hTe
              by_cases hw : wn = []
              · rw [if_pos hw] at ht
                obtain ⟨rfl, rfl, rfl⟩ := ans_ok ht
                have hk0 : ¬ (0 : Int) < (k2 : Int) := by
                  rw [hw] at hk2
                  have e0 : (unlikeH ([] : List (List UInt8))).length = 0 := rfl
                  omega
                clear ht hk2 hw
                go_wp2_with fail
                refine bodyPost_ret (results_tmp3 rfl _ _ _) rfl ?_
                exact ⟨none, 0, rfl, hashs_nil _, hR1.out.bel⟩
              · rw [if_neg hw] at ht
                obtain ⟨rfl, rfl, rfl⟩ := ans_want (unlikeH_ne hw) ht
                have hk0 : (0 : Int) < (k2 : Int) := by
                  have := List.length_pos_iff.2 (unlikeH_ne hw)
                  omega
                have hH2 := hid (show ∃ A c, Value.slice A2 k2 c2 = Value.slice A (unlikeH wn).length c ∧ Hashs wr wr.heap.size A (unlikeH wn).length (unlikeH wn) from by rw [hk2]; exact ⟨_, _, rfl, hH.out⟩)
                clear ht hk2 hw
                go_wp2_with fail
                refine bodyPost_ret (results_tmp3 rfl _ _ _) rfl ?_
                obtain ⟨A9, c9, e9, h9⟩ := hH2.out
                exact ⟨A9, c9, by rw [← e9]; rfl, h9, hR1.out.bel⟩
        · rw [if_neg hv] at hT3
          have hne := unlikeH_ne hv
          obtain ⟨rfl, rfl, rfl⟩ := ans_want hne hT3
          obtain rfl := hl7
          have hpos : (0 : Int) < ((unlikeH v).length : Int) := by
            have := List.length_pos_iff.2 hne
            omega
          have hH7 := hid (own_hashs hr7 h327)
          clear hT2' hT2e' hT3 hr6 hr7 h326 h327 hap hv hne
          go_wp2_with fail
          refine bodyPost_ret (results_tmp3 rfl _ _ _) rfl ?_
          exact ⟨_, _, rfl, hH7.out, hB3.out⟩
end Go.Proofs.Ytpjfhbmegabafaa
