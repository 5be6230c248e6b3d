/- Layer 12, the program's side: shelf.Put, shelf.Get.
   Layer 12, the program's side: shelf.Of.
   Layer 12, the program's side: the hashes of a list. -/
import Derived.Test.YtpjfhbmegabafaaLFtX
import Derived.BigQuiet
namespace Go.Proofs.Ytpjfhbmegabafaa
open Go.RowKit
attribute [local irreducible] Sha.compress Sha.blocks Sha.sha Sha.pad

theorem HkRow.on {w w' : World} {r B c : Nat} {M : Option Nat} {A : Option Addr} {ks : List (List UInt8 × ByteArray)} (h : HkRow w r B M A c ks) (hb : Below w.heap.size w w') : HkRow w' r B M A c ks :=
  ⟨h.cell.below hb h.cell.lt, h.map.imp id (fun ⟨mb, e, hm⟩ => ⟨mb, e, hm.on hb⟩), rown_onF h.row hb, h.len, h.uniq⟩
theorem HkPut.of_below {w W w' : World} {r B c c' : Nat} {M M' : Option Nat} {A A' : Option Addr} {ks : List (List UInt8 × ByteArray)} {k : List UInt8} {x : ByteArray} (hb : Below w.heap.size w W) (h : HkPut W w' r B M A c ks k x M' A' c') : HkPut w w' r B M A c ks k x M' A' c' :=
  ⟨h.row, (TurnS.of_below hb).trans h.turn, fun q hq => (h.fresh q hq).imp id (fun h2 => Nat.le_trans hb.size h2)⟩
set_option maxRecDepth 100000 in
set_option maxHeartbeats 1000000 in
theorem skGet_any (r B : Nat) (M : Option Nat) (A : Option Addr) (c : Nat) (ks : List (List UInt8 × ByteArray)) (k : List UInt8) (hk : k.length = 32) (hn : ks.length ≤ 8796093021952) (w : World) (h : HkRow w r B M A c ks) :
    Calls Try.prog 75 #[.pointer (some ⟨r, 0, none⟩), .agg (byteCells k).toArray] w fun e w' => ((∃ x, (k, x) ∈ ks ∧ e = .returned (.tuple #[.string x, .bool true])) ∨ ((∀ p ∈ ks, p.1 ≠ k) ∧ e = .returned (.tuple #[.string ⟨#[]⟩, .bool false]))) ∧ Below w.heap.size w w' := by
  have hC := hid (hash_cells k hk)
  have h0 := hid h
  have hk' := hid hk
  have hn' := hid hn
  clear h hk hn
  go_enter Try.func75, Try.ntmps75
  go_wp2_with fail
  obtain ⟨W1, hW1⟩ : ∃ V, (w.alloc (.cells (byteCells k).toArray 33)).drew = V := ⟨_, rfl⟩
  have hb1 := hid (show Below w.heap.size w W1 from by rw [← hW1]; exact ((Below.refl _ _).alloc (Nat.le_refl _) _).drew)
  obtain ⟨g, hg⟩ : ∃ g, w.heap.size = g := ⟨_, rfl⟩
  have hX := hid (show Holds W1 g 33 (byteCells k) from by rw [← hW1, ← hg]; exact Holds.new w _ (byteCells k).toArray)
  have hR1 := hid (h0.out.on hb1.out)
  refine wp_region_held_drew (S := fun V => Holds V g 33 (byteCells k)) (by kernel_rfl) (by rw [hW1]; exact hX.out) (fun hHeld => ?_)
  simp only [hg]
  rw [hW1] at hHeld ⊢
  clear hW1
  refine tkx 0 (.pointer (some ⟨r, 0, none⟩)) hHeld ?_; simp only [ly, Act.put]
  refine tkx 1 (.pointer (some ⟨r, 0, none⟩)) hHeld ?_; simp only [ly, Act.put]
  refine tkx 2 (.pointer (some ⟨r, 0, none⟩)) hHeld ?_; simp only [ly, Act.put]
  refine tkx 3 (.agg (byteCells k).toArray) hHeld ?_ (hy := yieldsIf_load_any (by kernel_rfl) _ _ rfl ⟨g, 0, none⟩ rfl (byteCells k) _ (fun V hS => hS.anyO) Try.underlying33 rfl (by exact hC.out.size')); simp only [ly, Act.put]
  refine wpAnyH_ready (rs := [4]) (by kernel_rfl) (by simp) (AllReadyH.cons rfl (fun K hK => ?_) AllReadyH.nil)
  have hK' := hid hK
  clear hK
  rw [if_pos (by kernel_rfl)]
  simp only [ly1, ly2, ly3]
  go_simp
  refine (hkGet_any r B M A c ks k hk'.out hn'.out W1 hR1.out).mono ?_
  rintro e W2 ⟨hor, hb⟩
  have hb2 := hid (hb1.out.trans (hb.mono hb1.out.size))
  have hX2 := hid (hX.out.below hb hX.out.lt)
  clear hb
  rcases hor with ⟨y, hy, rfl⟩ | ⟨hno, rfl⟩
  · have hy' := hid hy
    clear hy
    refine hK'.out _ _ (by exact hX2.out) (fun hHeld => ?_)
    clear hK' K
    refine tkx 5 (.string y) hHeld ?_; simp only [ly, Act.put]
    refine tkx 6 (.bool true) hHeld ?_; simp only [ly, Act.put]
    refine tkx 7 (.string y) hHeld ?_; simp only [ly, Act.put]
    refine tkx 8 (.bool true) hHeld ?_; simp only [ly, Act.put]
    refine wpAnyH_done (by kernel_rfl) ?_ _
    clear hHeld
    go_wp2_with fail
    go_ret2
    exact ⟨.inl ⟨y, hy'.out, rfl⟩, by first | exact hb2.out | (rw [hg]; exact hb2.out)⟩
  · have hno' := hid hno
    clear hno
    refine hK'.out _ _ (by exact hX2.out) (fun hHeld => ?_)
    clear hK' K
    refine tkx 5 (.string ⟨#[]⟩) hHeld ?_; simp only [ly, Act.put]
    refine tkx 6 (.bool false) hHeld ?_; simp only [ly, Act.put]
    refine tkx 7 (.string ⟨#[]⟩) hHeld ?_; simp only [ly, Act.put]
    refine tkx 8 (.bool false) hHeld ?_; simp only [ly, Act.put]
    refine wpAnyH_done (by kernel_rfl) ?_ _
    clear hHeld
    go_wp2_with fail
    go_ret2
    exact ⟨.inr ⟨hno'.out, rfl⟩, by first | exact hb2.out | (rw [hg]; exact hb2.out)⟩
set_option maxRecDepth 100000 in
set_option maxHeartbeats 1000000 in
theorem skPut_any (r B : Nat) (M : Option Nat) (A : Option Addr) (c : Nat) (ks : List (List UInt8 × ByteArray)) (x : ByteArray) (hx : x.size ≤ 65536) (hn : ks.length ≤ 8796093021952) (w : World) (h : HkRow w r B M A c ks) (hB : B ≤ w.heap.size) :
    Calls Try.prog 73 #[.pointer (some ⟨r, 0, none⟩), .string x] w fun e w' => e = .returned (.tuple #[]) ∧ ∃ M' A' c', HkPut w w' r B M A c ks (obHash x) x M' A' c' := by
  obtain ⟨l, hl⟩ : ∃ l, obHash x = l := ⟨_, rfl⟩
  have l32 := hid (show l.length = 32 from by rw [← hl]; exact obHash_len _)
  have hSh := hid (fun V => shHash_yes hx V)
  rw [hl] at hSh ⊢
  have hC := hid (hash_cells l l32.out)
  have h0 := hid h
  have hn' := hid hn
  have hB' := hid hB
  clear h hn hB hl
  go_enter Try.func73, Try.ntmps73
  go_wp2_with (first
    | (go_at_call 40; refine (hSh.out w).mono ?_; rintro e W1 ⟨rfl, hb⟩; have hR1 := hid (h0.out.on hb); have hb1 := hid hb; clear hb)
    | ((with_reducible refine at_slot (some 4) ?_); refine wpList_run rfl (.pointer (some ⟨W1.heap.size, 0, none⟩)) (W1.alloc (.cells z32 33)) (by kernel_rfl) ?_)
    | ((with_reducible refine at_slot none ?_); refine wpList_store_mid rfl 33 (.tmp 4) (.tmp 9) rfl W1.heap.size 0 (byteCells l).toArray rfl rfl (by exact hC.out.there W1) (by exact hC.out.size) (by exact hC.out.one) ?_; generalize hW : World.setCells _ _ _ _ = W2; obtain ⟨hN, hb⟩ := hC.out.new hW; have hX2 := hid hN; have hR2 := hid (hR1.out.on hb); have hb2 := hid (hb1.out.trans (hb.mono hb1.out.size)); clear hN hb hW)
    | fail)
  obtain ⟨g, hg⟩ : ∃ g, W1.heap.size = g := ⟨_, rfl⟩
  rw [hg] at hX2
  have hR3 := hid (show HkRow W2.drew r B M A c ks from hR2.out.on (Below.refl W2.heap.size W2).drew)
  have hb3 := hid (show Below w.heap.size w W2.drew from hb2.out.trans (Below.refl w.heap.size W2).drew)
  have hX3 := hid (show Holds W2.drew g 33 (byteCells l) from hX2.out)
  refine wp_region_held_drew (S := fun V => Holds V g 33 (byteCells l)) (by kernel_rfl) (by exact hX3.out) (fun hHeld => ?_)
  simp only [hg]
  clear hR2 hX2 hb2
  generalize W2.drew = W3 at *
  refine tkx 0 (.pointer (some ⟨r, 0, none⟩)) hHeld ?_; simp only [ly, Act.put]
  refine tkx 1 (.pointer (some ⟨r, 0, none⟩)) hHeld ?_; simp only [ly, Act.put]
  refine tkx 2 (.pointer (some ⟨r, 0, none⟩)) hHeld ?_; simp only [ly, Act.put]
  refine tkx 3 (.agg (byteCells l).toArray) hHeld ?_ (hy := yieldsIf_load_any (by kernel_rfl) _ _ rfl ⟨g, 0, none⟩ rfl (byteCells l) _ (fun V hS => hS.anyO) Try.underlying33 rfl (by exact hC.out.size')); simp only [ly, Act.put]
  refine tkx 4 (.string x) hHeld ?_; simp only [ly, Act.put]
  refine wpAnyH_ready (rs := [5]) (by kernel_rfl) (by simp) (AllReadyH.cons rfl (fun K hK => ?_) AllReadyH.nil)
  have hK' := hid hK
  clear hK
  rw [if_pos (by kernel_rfl)]
  simp only [ly1, ly2, ly3]
  go_simp
  refine (hkPut_any r B M A c ks l x l32.out hn'.out W3 hR3.out (by have := hb3.out.size; have := hB'.out; omega)).mono ?_
  rintro e W4 ⟨⟨v, rfl⟩, M', A', c', hp⟩
  have hfin := hid (HkPut.of_below hb3.out hp)
  have hgl := hid (show W4.heap[g]? = W3.heap[g]? from by
    refine hp.turn.block g hX3.out.lt (fun hs => ?_)
    have hlt : g < w.heap.size := by
      rcases hs with e | e | e
      · rw [e]; exact h0.out.cell.lt
      · rcases h0.out.map with ⟨e2, _⟩ | ⟨mb, e2, hm⟩
        · rw [e2] at e; cases e
        · rw [e2] at e; rw [← Option.some.inj e]; exact hm.lt
      · exact (h0.out.row.lt g e).2
    have := hb1.out.size
    omega)
  refine hK'.out _ _ (by exact hgl.out.trans hX3.out) (fun hHeld => ?_)
  clear hK' K hp
  refine wpAnyH_done (by kernel_rfl) ?_ _
  clear hHeld
  go_wp2_with fail
  go_end0
  exact ⟨rfl, _, _, _, hfin.out⟩

end Go.Proofs.Ytpjfhbmegabafaa
namespace Go.Proofs.Ytpjfhbmegabafaa
open Go.RowKit
attribute [local irreducible] Sha.compress Sha.blocks Sha.sha Sha.pad

set_option maxRecDepth 100000 in
set_option maxHeartbeats 1000000 in
theorem skPut_long (r B : Nat) (M : Option Nat) (A : Option Addr) (c : Nat) (ks : List (List UInt8 × ByteArray)) (x : ByteArray) (hx : 65536 < x.size) (hx2 : x.size ≤ 140737488351232) (w : World) (h : HkRow w r B M A c ks) :
    Calls Try.prog 73 #[.pointer (some ⟨r, 0, none⟩), .string x] w fun e w' => e = .returned (.tuple #[]) ∧ HkRow w' r B M A c ks ∧ Below w.heap.size w w' := by
  have hSh := hid (fun V => shHash_no hx hx2 V)
  have hC := hid (hash_cells (List.replicate 32 0) rfl)
  have h0 := hid h
  clear h
  go_enter Try.func73, Try.ntmps73
  go_wp2_with (first
    | (go_at_call 40; refine (hSh.out w).mono ?_; rintro e W1 ⟨rfl, hb⟩; have hR1 := hid (h0.out.on hb); have hb1 := hid hb; clear hb)
    | ((with_reducible refine at_slot (some 4) ?_); refine wpList_run rfl (.pointer (some ⟨W1.heap.size, 0, none⟩)) (W1.alloc (.cells z32 33)) (by kernel_rfl) ?_)
    | ((with_reducible refine at_slot none ?_); refine wpList_store_mid rfl 33 (.tmp 4) (.tmp 9) rfl W1.heap.size 0 (byteCells (List.replicate 32 0)).toArray rfl rfl (by exact hC.out.there W1) (by exact hC.out.size) (by exact hC.out.one) ?_; generalize hW : World.setCells _ _ _ _ = W2; obtain ⟨hN, hb⟩ := hC.out.new hW; have hR2 := hid (hR1.out.on hb); have hb2 := hid (hb1.out.trans (hb.mono hb1.out.size)); clear hN hb hW)
    | fail)
  go_end0
  exact ⟨rfl, hR2.out, hb2.out⟩

open Classical in
noncomputable def addS (ks : List (List UInt8 × ByteArray)) (x : ByteArray) : List (List UInt8 × ByteArray) := if x.size ≤ 65536 then addK ks (obHash x) x else ks
theorem addK_len (ks : List (List UInt8 × ByteArray)) (k : List UInt8) (x : ByteArray) : (addK ks k x).length ≤ ks.length + 1 := by
  by_cases h : ∀ p ∈ ks, p.1 ≠ k
  · rw [addK_new h, List.length_append]; simp
  · rw [addK_old h]; omega
theorem addS_len (ks : List (List UInt8 × ByteArray)) (x : ByteArray) : (addS ks x).length ≤ ks.length + 1 := by
  unfold addS
  split
  · exact addK_len ..
  · omega
/-- A shelf that one function made for itself. -/
structure ShAt (w W : World) (M : Option Nat) (A : Option Addr) (c : Nat) (ks : List (List UInt8 × ByteArray)) : Prop where
  row : HkRow W w.heap.size 0 M A c ks
  low : ∀ q, TOwn M A ks.length c q → w.heap.size ≤ q
  bel : Below w.heap.size w W
theorem ShAt.put {w W W' : World} {M M' : Option Nat} {A A' : Option Addr} {c c' : Nat} {ks : List (List UInt8 × ByteArray)} {x : ByteArray} (h : ShAt w W M A c ks) (hx : x.size ≤ 65536) (hp : HkPut W W' w.heap.size 0 M A c ks (obHash x) x M' A' c') : ShAt w W' M' A' c' (addS ks x) := by
  have e : addS ks x = addK ks (obHash x) x := by unfold addS; rw [if_pos hx]
  rw [e]
  refine ⟨hp.row, fun q hq => ?_, h.bel.trans (hp.turn.below (fun q hs => hs.elim (fun e => by omega) (fun e => h.low q e)) h.bel.size)⟩
  rcases hp.fresh q hq with h3 | h3
  · exact h.low q h3
  · have := h.bel.size; omega
theorem ShAt.long {w W W' : World} {M : Option Nat} {A : Option Addr} {c : Nat} {ks : List (List UInt8 × ByteArray)} {x : ByteArray} (h : ShAt w W M A c ks) (hx : ¬ x.size ≤ 65536) (hr : HkRow W' w.heap.size 0 M A c ks) (hb : Below W.heap.size W W') : ShAt w W' M A c (addS ks x) := by
  have e : addS ks x = ks := by unfold addS; rw [if_neg hx]
  rw [e]
  exact ⟨hr, h.low, h.bel.trans (hb.mono h.bel.size)⟩
/-- shelf.Put, whatever is put. -/
theorem shPut_any (M : Option Nat) (A : Option Addr) (c : Nat) (ks : List (List UInt8 × ByteArray)) (x : ByteArray) (hx2 : x.size ≤ 140737488351232) (hn : ks.length ≤ 8796093021952) (w W : World) (h : ShAt w W M A c ks) :
    Calls Try.prog 73 #[.pointer (some ⟨w.heap.size, 0, none⟩), .string x] W fun e w' => e = .returned (.tuple #[]) ∧ ∃ M' A' c', ShAt w w' M' A' c' (addS ks x) := by
  by_cases hx : x.size ≤ 65536
  · refine (skPut_any _ 0 M A c ks x hx hn W h.row (Nat.zero_le _)).mono ?_
    rintro e w' ⟨rfl, M', A', c', hp⟩
    exact ⟨rfl, M', A', c', h.put hx hp⟩
  · refine (skPut_long _ 0 M A c ks x (by omega) hx2 W h.row).mono ?_
    rintro e w' ⟨rfl, hr, hb⟩
    exact ⟨rfl, M, A, c, h.long hx hr hb⟩
set_option maxRecDepth 100000 in
set_option maxHeartbeats 1000000 in
theorem shOf_any (A : Option Addr) (n c : Nat) (xs : List ByteArray) (hn : n ≤ 8796093021952) (hlen : xs.length = n) (hsm : ∀ x ∈ xs, x.size ≤ 140737488351232) (w : World) (hA : 0 < n → ∃ p : Addr, A = some p ∧ p.block < w.heap.size ∧ ∀ i x, xs[i]? = some x → w.cell? (p.add i) = some (.string x)) :
    Calls Try.prog 49 #[.slice A n c] w fun e w' => e = .returned (.pointer (some ⟨w.heap.size, 0, none⟩)) ∧ ∃ M' A' c', ShAt w w' M' A' c' (xs.foldl addS []) := by
  obtain ⟨W0, hW0⟩ : ∃ V, w.alloc (.cells #[.map none, .slice none 0 0] 144) = V := ⟨_, rfl⟩
  have h0 := hid (show ShAt w W0 none none 0 [] from ⟨⟨by rw [← hW0]; exact Holds.new w _ #[.map none, .slice none 0 0], .inl ⟨rfl, rfl⟩, World.ownsRow_nil _ _ _ _, (fun p hp => nomatch hp), List.nodup_nil⟩, (fun q hq => hq.elim (fun e => nomatch e) (fun e => nomatch e)), by rw [← hW0]; exact (Below.refl _ _).alloc (Nat.le_refl _) _⟩)
  have hW0' := hid hW0
  have hn' := hid hn
  have hl' := hid hlen
  have hA' := hid hA
  have hsm' := hid hsm
  obtain ⟨g, hg⟩ : ∃ g, w.heap.size = g := ⟨_, rfl⟩
  have hg' := hid hg
  clear hW0 hn hlen hA hsm hg
  rw [hg'.out]
  go_enter Try.func49, Try.ntmps49
  go_wp2_with (first
    | ((with_reducible refine at_slot (some 7) ?_); refine wpList_run rfl (.pointer (some ⟨g, 0, none⟩)) (w.alloc (.cells #[.map none, .slice none 0 0] 144)) (by rw [← hg'.out]; kernel_rfl) ?_; rw [hW0'.out])
    | fail)
  go_loopw [10] (fun i wr => ∃ (k : Nat) (M : Option Nat) (A2 : Option Addr) (c2 : Nat), k ≤ n ∧ i = .int .i64 (k : Int) ∧ ShAt w wr M A2 c2 ((xs.take k).foldl addS []) ∧ ((xs.take k).foldl addS []).length ≤ k) (fun i _ => n - (intOf i).toNat)
  case atStart => exact ⟨0, none, none, 0, Nat.zero_le _, rfl, h0.out, Nat.le_refl _⟩
  case round =>
    obtain ⟨k, M, A2, c2, hkn, rfl, hS, hkl⟩ := hrel
    obtain ⟨W10, rfl⟩ : ∃ V, V = wr := ⟨_, rfl⟩
    by_cases hlt : k < n
    · have hki : (k : Int) < (n : Int) := by omega
      have hk0 : (0 : Int) ≤ (k : Int) := by omega
      obtain ⟨p, rfl, hpb, hpc⟩ := hA'.out (by omega)
      have hxk := List.getElem?_eq_getElem (l := xs) (i := k) (by have := hl'.out; omega)
      obtain ⟨x, hx⟩ : ∃ x, xs[k]'(by have := hl'.out; omega) = x := ⟨_, rfl⟩
      rw [hx] at hxk
      have hcell : W10.cell? (p.add k) = some (.string x) := (hS.bel.cell (by rw [add_block]; exact hpb)).trans (hpc k x hxk)
      have hnx := hid (show (xs.take (k + 1)).foldl addS [] = addS ((xs.take k).foldl addS []) x from by rw [List.take_add_one, hxk, List.foldl_append]; rfl)
      obtain ⟨ks, hks⟩ : ∃ l, (xs.take k).foldl addS [] = l := ⟨_, rfl⟩
      rw [hks] at hnx hS hkl
      have u2 := IntWalk.i64_in ((k : Int) + 1) (by have := hn'.out; omega)
      have hkl' := hid hkl
      have hPut := hid (shPut_any M A2 c2 ks x (hsm'.out x (List.mem_of_getElem? hxk)) (by have := hn'.out; omega) w W10 hS)
      rw [hg'.out] at hPut
      clear hxk hx hpc hpb hks hS hkl
      go_wp2_with fail
      refine hPut.out.mono ?_
      rintro e W11 ⟨rfl, M', A', c', hS'⟩
      have hS2 := hid hS'
      clear hS' hcell
      go_wp2_with fail
      go_roundw
      case rel => exact ⟨k + 1, M', A', c', hlt, rfl, by rw [hnx.out]; exact hS2.out, by rw [hnx.out]; have := addS_len ks x; have := hkl'.out; omega⟩
      case measure => simp only [intOf]; omega
    · have hki : ¬ (k : Int) < (n : Int) := by omega
      have hS2 := hid (show ShAt w W10 M A2 c2 (xs.foldl addS []) from by rw [List.take_of_length_le (by have := hl'.out; omega)] at hS; exact hS)
      clear hS hkl
      go_wp2_with fail
      go_ret
      exact ⟨rfl, M, A2, c2, hS2.out⟩

end Go.Proofs.Ytpjfhbmegabafaa
namespace Go.Proofs.Ytpjfhbmegabafaa
open Go.RowKit
attribute [local irreducible] Sha.compress Sha.blocks Sha.sha Sha.pad

theorem RowH.keep {w w' : World} {b : Nat} {hs : List (List UInt8)} {X : Nat → Prop} (h : RowH w b hs) (hk : KeepX X w w') (hx : ¬ X b) : RowH w' b hs :=
  let ⟨cs, t, f, h1, h2⟩ := h
  ⟨cs, t, f, hk.block h1 hx, h2⟩
theorem RowH.lt {w : World} {b : Nat} {hs : List (List UInt8)} (h : RowH w b hs) : b < w.heap.size :=
  let ⟨_, _, _, h1, _⟩ := h
  (Array.getElem?_eq_some_iff.1 h1).1
theorem RowH.range {w : World} {b i : Nat} {hs : List (List UInt8)} {x : List UInt8} (h : RowH w b hs) (h32 : ∀ x ∈ hs, x.length = 32) (hx : hs[i]? = some x) : w.rangeAt b (i * 32) (byteCells x) := by
  obtain ⟨cs, t, f, h1, h2⟩ := h
  have e : (hs.drop i).take 1 = [x] := by
    rw [List.drop_eq_getElem_cons (List.getElem?_eq_some_iff.1 hx).1]
    simp [(List.getElem?_eq_some_iff.1 hx).2]
  intro j v hj
  rw [cell_of_row w b _ cs t f h1]
  exact h2 _ _ (cells_piece (m := i) (k := 1) h32 (by rw [e, hashCells_one]; exact hj))
set_option maxRecDepth 100000 in
theorem sValH_any (A : Option Addr) (n c : Nat) (w : World) : Calls Try.prog 78 #[.slice A n c] w fun e w' => e = .returned (.func (.func 92) #[] #[.pointer (some ⟨w.heap.size, 0, none⟩)]) ∧ w' = w.alloc (.cells #[.slice A n c] 62) := by
  go_enter Try.func78, Try.ntmps78
  go_wp2_with (first
    | ((with_reducible refine at_slot (some 1) ?_); refine wpList_run rfl (.pointer (some ⟨w.heap.size, 0, none⟩)) (w.alloc (.cells #[.slice A n c] 62)) (by kernel_rfl) ?_)
    | fail)
  go_ret
  exact ⟨rfl, rfl⟩
def z0 : List UInt8 := List.replicate 32 0
set_option maxRecDepth 100000 in
set_option maxHeartbeats 1000000 in
theorem sValH_all (m : Nat) (X : Nat → Prop) (c1 b : Nat) (A : Option Addr) (n c : Nat) (hs : List (List UInt8)) (h32 : ∀ x ∈ hs, x.length = 32) (hlen : hs.length = n) (hA : 0 < n → A = some ⟨b, 0, none⟩) (hn : n ≤ 100000) (x2 : 0 < n → ¬ X b) (w : World)
    (h1 : Holds w c1 62 [.slice A n c]) (h2 : 0 < n → RowH w b hs) :
    SeqOwn Fence.wide (m + 1) Try.prog 92 #[.pointer (some ⟨c1, 0, none⟩)] (fun i : Nat => #[.agg (byteCells (hs.getD i z0)).toArray]) (fun _ => False) (fun o => KeepX (fun k => X k ∨ o k)) (fun l => l = List.range n) n w := fun l J W hW hJ hJo hY hj0 => by
  have hA' := hid hA
  have hn' := hid hn
  have hl' := hid hlen
  have h32' := hid h32
  have h2W := hid (fun h => (h2 h).on (hW.block b (h2 h).lt))
  have hbW := hid (fun h => Nat.lt_of_lt_of_le (h2 h).lt hW.size)
  have x2' := hid x2
  have hYy := hid hY
  have hJj := hid hJ
  have hJo' := hid hJo
  have hj0' := hid hj0
  have c1W := (h1.below hW h1.lt).cO 0 _ rfl
  clear hA h2 hY hJ hJo hj0 hW h1 x2 hn hlen h32
  refine callsIn_of_wp Try.func92 rfl trivial ?_ rfl
  simp only [Try.ntmps92, List.size_toArray, List.length_cons, List.length_nil, Nat.reduceAdd, Nat.reduceSub, Array.replicate_succ, Array.replicate_zero, List.push_toArray, List.append_toArray, List.nil_append, List.cons_append]
  gi_wp2_with fail
  gi_loopw [7] (fun i wr => ∃ (k : Nat) (o : Nat → Prop), k ≤ n ∧ i = .int .i64 (k : Int) ∧ J (List.range k) o wr ∧ (0 < n → RowH wr b hs) ∧ W.heap.size ≤ wr.heap.size) (fun i _ => n - (intOf i).toNat)
  case atStart => exact ⟨0, _, Nat.zero_le _, rfl, hj0'.out, h2W.out, Nat.le_refl _⟩
  case round =>
    obtain ⟨k, o, hkn, rfl, hj, ht, hz⟩ := hrel
    have hj' := hid hj
    have ht' := hid ht
    have hz' := hid hz
    clear hj ht hz
    by_cases hlt : k < n
    · have hki : (k : Int) < (n : Int) := by omega
      have hk0 : (0 : Int) ≤ (k : Int) := by omega
      obtain rfl := hA'.out (by omega)
      have hxk := List.getElem?_eq_getElem (l := hs) (i := k) (by have := hl'.out; omega)
      obtain ⟨x, hx⟩ : ∃ x, hs[k]'(by have := hl'.out; omega) = x := ⟨_, rfl⟩
      rw [hx] at hxk
      have hgd := hid (show hs.getD k z0 = x from by rw [List.getD_eq_getElem?_getD, hxk]; rfl)
      have hx32 := hid (h32'.out x (List.mem_of_getElem? hxk))
      have hC := hid (hash_cells x hx32.out)
      have hrg := hid ((ht'.out (by omega)).range h32'.out hxk)
      obtain ⟨Wa, rfl⟩ : ∃ V, V = wr := ⟨_, rfl⟩
      have u2 := IntWalk.i64_in ((k : Int) + 1) (by have := hn'.out; omega)
      clear hxk hx
      gi_wp2_with (first
        | ((with_reducible refine at_slotIn (some 10) ?_); refine wpListIn_load_mid rfl 33 (.tmp 9) rfl b (k * 32) rfl (byteCells x) _ (by exact hrg.out) Try.underlying33 rfl (by exact hC.out.size') ?_)
        | ((with_reducible refine at_slotIn (some 4) ?_); refine wpListIn_run rfl (fun c e => by cases e) (by kernel_rfl) (.pointer (some ⟨Wa.heap.size, 0, none⟩)) (Wa.alloc (.cells z32 33)) (by kernel_rfl) ?_)
        | ((with_reducible refine at_slotIn none ?_); refine wpListIn_store_mid rfl 33 (.tmp 4) (.tmp 10) rfl Wa.heap.size 0 (byteCells x).toArray rfl rfl (by exact hC.out.there Wa) (by exact hC.out.size) (by exact hC.out.one) ?_; generalize hW : World.setCells _ _ _ _ = Wb; obtain ⟨hN, hb⟩ := hC.out.new hW; have hX2 := hid hN; have hbb := hid hb; clear hN hb hW)
        | ((with_reducible refine at_slotIn (some 12) ?_); refine wpListIn_load_mid rfl 33 (.tmp 4) rfl Wa.heap.size 0 rfl (byteCells x) _ (by exact h_all hX2.out) Try.underlying33 rfl (by exact hC.out.size') ?_; have hjb := hid (hJj.out _ o _ Wb none hj'.out ⟨hbb.out.os, hbb.out.tape, hbb.out.output, hbb.out.size, fun k hk _ => hbb.out.block k hk⟩ (fun r e => nomatch e)); obtain ⟨fn1, tmps1, assign1, body1, hy1, hR1⟩ : YieldAt Fence.wide m Try.prog l #[.agg (byteCells x).toArray] Wb (fun e W' => e = .returned (.bool true) ∧ ∃ o', FreshP Wb o o' ∧ J (List.range k ++ [k]) o' W' ∧ KeepX (fun k => X k ∨ o k) Wb W') := (by have := hYy.out (List.range k) k o Wb hjb.out (by rw [List.length_range]; exact hlt); rw [hgd.out] at this; exact this))
        | fail)
      refine hR1.mono ?_
      rintro e Wf ⟨rfl, o2, hF5, hJ5, hK5⟩
      have hTf := hid (fun h => ((ht'.out h).on (hbb.out.block b (ht'.out h).lt)).keep hK5 (fun hx => hx.elim (x2'.out h) (fun ho => by have := hJo'.out _ o Wa b hj'.out ho; have := hbW.out h; omega)))
      have hJf := hid hJ5
      have hzf := hid (Nat.le_trans (Nat.le_trans hz'.out hbb.out.size) hK5.1)
      clear hK5 hJ5 hF5 hy1 hR1
      gi_wp2_with fail
      go_roundw
      case rel => exact ⟨k + 1, o2, hlt, rfl, by rw [List.range_succ]; exact hJf.out, hTf.out, hzf.out⟩
      case measure => simp only [intOf]; omega
    · have hki : ¬ (k : Int) < (n : Int) := by omega
      obtain rfl : k = n := by omega
      gi_wp2_with fail
      go_end0
      exact ⟨⟨_, rfl⟩, o, hj'.out⟩

end Go.Proofs.Ytpjfhbmegabafaa
