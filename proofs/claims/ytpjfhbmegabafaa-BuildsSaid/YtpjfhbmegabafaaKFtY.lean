/- Layer 12, the program's side: shelf.Put, shelf.Get. -/
import Derived.Test.YtpjfhbmegabafaaKFtX
import Derived.BigQuiet
namespace Go.Proofs.Ytpjfhbmegabafaa
open Go.RowKit
attribute [local irreducible] Sha.compress Sha.blocks Sha.sha Sha.pad

theorem HkRow.on {w w' : World} {r B c : Nat} {M : Option Nat} {A : Option Addr} {ks : List (List UInt8 × ByteArray)} (h : HkRow w r B M A c ks) (hb : Below w.heap.size w w') : HkRow w' r B M A c ks :=
  ⟨h.cell.below hb h.cell.lt, h.map.imp id (fun ⟨mb, e, hm⟩ => ⟨mb, e, hm.on hb⟩), rown_onF h.row hb, h.len, h.uniq⟩
theorem HkPut.of_below {w W w' : World} {r B c c' : Nat} {M M' : Option Nat} {A A' : Option Addr} {ks : List (List UInt8 × ByteArray)} {k : List UInt8} {x : ByteArray} (hb : Below w.heap.size w W) (h : HkPut W w' r B M A c ks k x M' A' c') : HkPut w w' r B M A c ks k x M' A' c' :=
  ⟨h.row, (TurnS.of_below hb).trans h.turn, fun q hq => (h.fresh q hq).imp id (fun h2 => Nat.le_trans hb.size h2)⟩
set_option maxRecDepth 100000 in
set_option maxHeartbeats 1000000 in
theorem skGet_any (r B : Nat) (M : Option Nat) (A : Option Addr) (c : Nat) (ks : List (List UInt8 × ByteArray)) (k : List UInt8) (hk : k.length = 32) (hn : ks.length ≤ 8796093021952) (w : World) (h : HkRow w r B M A c ks) :
    Calls Try.prog 75 #[.pointer (some ⟨r, 0, none⟩), .agg (byteCells k).toArray] w fun e w' => ((∃ x, (k, x) ∈ ks ∧ e = .returned (.tuple #[.string x, .bool true])) ∨ ((∀ p ∈ ks, p.1 ≠ k) ∧ e = .returned (.tuple #[.string ⟨#[]⟩, .bool false]))) ∧ Below w.heap.size w w' := by
  have hC := hid (hash_cells k hk)
  have h0 := hid h
  have hk' := hid hk
  have hn' := hid hn
  clear h hk hn
  go_enter Try.func75, Try.ntmps75
  go_wp2_with fail
  obtain ⟨W1, hW1⟩ : ∃ V, (w.alloc (.cells (byteCells k).toArray 33)).drew = V := ⟨_, rfl⟩
  have hb1 := hid (show Below w.heap.size w W1 from by rw [← hW1]; exact ((Below.refl _ _).alloc (Nat.le_refl _) _).drew)
  obtain ⟨g, hg⟩ : ∃ g, w.heap.size = g := ⟨_, rfl⟩
  have hX := hid (show Holds W1 g 33 (byteCells k) from by rw [← hW1, ← hg]; exact Holds.new w _ (byteCells k).toArray)
  have hR1 := hid (h0.out.on hb1.out)
  refine wp_region_held_drew (S := fun V => Holds V g 33 (byteCells k)) (by kernel_rfl) (by rw [hW1]; exact hX.out) (fun hHeld => ?_)
  simp only [hg]
  rw [hW1] at hHeld ⊢
  clear hW1
  refine tkx 0 (.pointer (some ⟨r, 0, none⟩)) hHeld ?_; simp only [ly, Act.put]
  refine tkx 1 (.pointer (some ⟨r, 0, none⟩)) hHeld ?_; simp only [ly, Act.put]
  refine tkx 2 (.pointer (some ⟨r, 0, none⟩)) hHeld ?_; simp only [ly, Act.put]
  refine tkx 3 (.agg (byteCells k).toArray) hHeld ?_ (hy := yieldsIf_load_any (by kernel_rfl) _ _ rfl ⟨g, 0, none⟩ rfl (byteCells k) _ (fun V hS => hS.anyO) Try.underlying33 rfl (by exact hC.out.size')); simp only [ly, Act.put]
  refine wpAnyH_ready (rs := [4]) (by kernel_rfl) (by simp) (AllReadyH.cons rfl (fun K hK => ?_) AllReadyH.nil)
  have hK' := hid hK
  clear hK
  rw [if_pos (by kernel_rfl)]
  simp only [ly1, ly2, ly3]
  go_simp
  refine (hkGet_any r B M A c ks k hk'.out hn'.out W1 hR1.out).mono ?_
  rintro e W2 ⟨hor, hb⟩
  have hb2 := hid (hb1.out.trans (hb.mono hb1.out.size))
  have hX2 := hid (hX.out.below hb hX.out.lt)
  clear hb
  rcases hor with ⟨y, hy, rfl⟩ | ⟨hno, rfl⟩
  · have hy' := hid hy
    clear hy
    refine hK'.out _ _ (by exact hX2.out) (fun hHeld => ?_)
    clear hK' K
    refine tkx 5 (.string y) hHeld ?_; simp only [ly, Act.put]
    refine tkx 6 (.bool true) hHeld ?_; simp only [ly, Act.put]
    refine tkx 7 (.string y) hHeld ?_; simp only [ly, Act.put]
    refine tkx 8 (.bool true) hHeld ?_; simp only [ly, Act.put]
    refine wpAnyH_done (by kernel_rfl) ?_ _
    clear hHeld
    go_wp2_with fail
    go_ret2
    exact ⟨.inl ⟨y, hy'.out, rfl⟩, by first | exact hb2.out | (rw [hg]; exact hb2.out)⟩
  · have hno' := hid hno
    clear hno
    refine hK'.out _ _ (by exact hX2.out) (fun hHeld => ?_)
    clear hK' K
    refine tkx 5 (.string ⟨#[]⟩) hHeld ?_; simp only [ly, Act.put]
    refine tkx 6 (.bool false) hHeld ?_; simp only [ly, Act.put]
    refine tkx 7 (.string ⟨#[]⟩) hHeld ?_; simp only [ly, Act.put]
    refine tkx 8 (.bool false) hHeld ?_; simp only [ly, Act.put]
    refine wpAnyH_done (by kernel_rfl) ?_ _
    clear hHeld
    go_wp2_with fail
    go_ret2
    exact ⟨.inr ⟨hno'.out, rfl⟩, by first | exact hb2.out | (rw [hg]; exact hb2.out)⟩
set_option maxRecDepth 100000 in
set_option maxHeartbeats 1000000 in
theorem skPut_any (r B : Nat) (M : Option Nat) (A : Option Addr) (c : Nat) (ks : List (List UInt8 × ByteArray)) (x : ByteArray) (hx : x.size ≤ 65536) (hn : ks.length ≤ 8796093021952) (w : World) (h : HkRow w r B M A c ks) (hB : B ≤ w.heap.size) :
    Calls Try.prog 73 #[.pointer (some ⟨r, 0, none⟩), .string x] w fun e w' => e = .returned (.tuple #[]) ∧ ∃ M' A' c', HkPut w w' r B M A c ks (obHash x) x M' A' c' := by
  obtain ⟨l, hl⟩ : ∃ l, obHash x = l := ⟨_, rfl⟩
  have l32 := hid (show l.length = 32 from by rw [← hl]; exact obHash_len _)
  have hSh := hid (fun V => shHash_yes hx V)
  rw [hl] at hSh ⊢
  have hC := hid (hash_cells l l32.out)
  have h0 := hid h
  have hn' := hid hn
  have hB' := hid hB
  clear h hn hB hl
  go_enter Try.func73, Try.ntmps73
  go_wp2_with (first
    | (go_at_call 40; refine (hSh.out w).mono ?_; rintro e W1 ⟨rfl, hb⟩; have hR1 := hid (h0.out.on hb); have hb1 := hid hb; clear hb)
    | ((with_reducible refine at_slot (some 4) ?_); refine wpList_run rfl (.pointer (some ⟨W1.heap.size, 0, none⟩)) (W1.alloc (.cells z32 33)) (by kernel_rfl) ?_)
    | ((with_reducible refine at_slot none ?_); refine wpList_store_mid rfl 33 (.tmp 4) (.tmp 9) rfl W1.heap.size 0 (byteCells l).toArray rfl rfl (by exact hC.out.there W1) (by exact hC.out.size) (by exact hC.out.one) ?_; generalize hW : World.setCells _ _ _ _ = W2; obtain ⟨hN, hb⟩ := hC.out.new hW; have hX2 := hid hN; have hR2 := hid (hR1.out.on hb); have hb2 := hid (hb1.out.trans (hb.mono hb1.out.size)); clear hN hb hW)
    | fail)
  obtain ⟨g, hg⟩ : ∃ g, W1.heap.size = g := ⟨_, rfl⟩
  rw [hg] at hX2
  have hR3 := hid (show HkRow W2.drew r B M A c ks from hR2.out.on (Below.refl W2.heap.size W2).drew)
  have hb3 := hid (show Below w.heap.size w W2.drew from hb2.out.trans (Below.refl w.heap.size W2).drew)
  have hX3 := hid (show Holds W2.drew g 33 (byteCells l) from hX2.out)
  refine wp_region_held_drew (S := fun V => Holds V g 33 (byteCells l)) (by kernel_rfl) (by exact hX3.out) (fun hHeld => ?_)
  simp only [hg]
  clear hR2 hX2 hb2
  generalize W2.drew = W3 at *
  refine tkx 0 (.pointer (some ⟨r, 0, none⟩)) hHeld ?_; simp only [ly, Act.put]
  refine tkx 1 (.pointer (some ⟨r, 0, none⟩)) hHeld ?_; simp only [ly, Act.put]
  refine tkx 2 (.pointer (some ⟨r, 0, none⟩)) hHeld ?_; simp only [ly, Act.put]
  refine tkx 3 (.agg (byteCells l).toArray) hHeld ?_ (hy := yieldsIf_load_any (by kernel_rfl) _ _ rfl ⟨g, 0, none⟩ rfl (byteCells l) _ (fun V hS => hS.anyO) Try.underlying33 rfl (by exact hC.out.size')); simp only [ly, Act.put]
  refine tkx 4 (.string x) hHeld ?_; simp only [ly, Act.put]
  refine wpAnyH_ready (rs := [5]) (by kernel_rfl) (by simp) (AllReadyH.cons rfl (fun K hK => ?_) AllReadyH.nil)
  have hK' := hid hK
  clear hK
  rw [if_pos (by kernel_rfl)]
  simp only [ly1, ly2, ly3]
  go_simp
  refine (hkPut_any r B M A c ks l x l32.out hn'.out W3 hR3.out (by have := hb3.out.size; have := hB'.out; omega)).mono ?_
  rintro e W4 ⟨⟨v, rfl⟩, M', A', c', hp⟩
  have hfin := hid (HkPut.of_below hb3.out hp)
  have hgl := hid (show W4.heap[g]? = W3.heap[g]? from by
    refine hp.turn.block g hX3.out.lt (fun hs => ?_)
    have hlt : g < w.heap.size := by
      rcases hs with e | e | e
      · rw [e]; exact h0.out.cell.lt
      · rcases h0.out.map with ⟨e2, _⟩ | ⟨mb, e2, hm⟩
        · rw [e2] at e; cases e
        · rw [e2] at e; rw [← Option.some.inj e]; exact hm.lt
      · exact (h0.out.row.lt g e).2
    have := hb1.out.size
    omega)
  refine hK'.out _ _ (by exact hgl.out.trans hX3.out) (fun hHeld => ?_)
  clear hK' K hp
  refine wpAnyH_done (by kernel_rfl) ?_ _
  clear hHeld
  go_wp2_with fail
  go_end0
  exact ⟨rfl, _, _, _, hfin.out⟩

end Go.Proofs.Ytpjfhbmegabafaa
