/- The codec's Writer: hashes. -/
import Derived.Test.YtapegklffglnoaaCod
namespace Go.Proofs.Ytapegklffglnoaa
open Go.RowKit
open Go.Lib (strCells strCells_length strCells_oneCell)

theorem below_drew1 (w : World) : Below w.heap.size w w.drew := ⟨rfl, rfl, rfl, Nat.le_refl _, fun _ _ => rfl⟩

set_option maxRecDepth 100000 in
set_option maxHeartbeats 2000000 in
theorem cHash_any (H : Array Value) (x : ByteArray) (hH : HashOf H x) (B g h : Nat) (s : ByteArray) (ext : Exts) (w : World) (hp : PutSt w B g h s ext) (hsz : s.size + 32 ≤ 65536) :
    Calls Try.prog 81 #[.pointer (some ⟨g, 0, none⟩), .agg H] w fun e w' => e = .returned (.tuple #[]) ∧ PutSt w' B g h (s ++ x) ext ∧ Below B w w' := by
  have hx := hH.size
  have hk : addPiece s (some x) = (s ++ x, 0) := addPiece_fits (by rw [hx]; exact hsz)
  have hlen : H.toList.length = 32 := by rw [Array.length_toList]; exact hH.len
  obtain ⟨W0, hW0⟩ : ∃ W0, w.alloc (.cells H 76) = W0 := ⟨_, rfl⟩
  have hp0 : PutSt W0 B g h s ((w.heap.size, 76, H.toList) :: ext) := by rw [← hW0]; exact hp.with H _
  have hB0 : Below B w W0 := by rw [← hW0]; exact (Below.refl _ _).alloc hp.size _
  have hp1 := hp0.keep (below_drew1 W0)
  obtain ⟨r, hC, hrest⟩ := hp1
  have hW := WHash_any H x hH h s r W0.drew hC.2.1 (by omega) _ 0 hk
  have hc := hC.1.cell 0
  simp at hc
  have hrow : W0.drew.rangeAt w.heap.size 0 H.toList := (hp0.held (List.mem_cons_self ..)).range 0 _ (fun j _ => by rw [Nat.zero_add])
  have hi : (Try.prog.info? 76).map (·.size) = some H.toList.length := by rw [hlen]; exact Try.infoHash
  have hC' := hid hC
  have hr' := hid hrest
  have hW' := hid hW
  have hp' := hid hp
  have hB' := hid hB0
  have hW0' := hid hW0
  clear hrest hW hC hk hp hp0 hB0 hW0
  go_enter Try.func81, Try.ntmps81
  go_wp2_with fail
  rw [hW0'.out]
  refine wp_region_held_drew (S := fun W => W.cell? ⟨g, 0, none⟩ = some (.pointer (some ⟨h, 0, none⟩)) ∧ W.rangeAt w.heap.size 0 H.toList) (by kernel_rfl) (by exact ⟨hc, hrow⟩) (fun hHeld => ?_)
  refine wpAnyH_take (i := 0) (v := .pointer (some ⟨g, 0, none⟩)) rfl (by kernel_rfl) (by kernel_rfl) (by kernel_rfl) (fun _ _ _ h => h) (yieldsIf_move _ rfl rfl rfl) hHeld ?_
  simp only [ly1, ly2, ly3, Act.put, ly5, ly6, ly7]
  refine wpAnyH_take (i := 1) (v := .pointer (some ⟨g, 0, none⟩)) rfl (by kernel_rfl) (by kernel_rfl) (by kernel_rfl) (fun _ _ _ h => h) (yieldsIf_move _ rfl rfl rfl) hHeld ?_
  simp only [ly1, ly2, ly3, Act.put, ly5, ly6, ly7]
  refine wpAnyH_take (i := 2) (v := .pointer (some ⟨g, 0, none⟩)) rfl (by kernel_rfl) (by kernel_rfl) (by kernel_rfl) (fun _ _ _ h => h) (.inl ⟨by kernel_rfl, fun w _ => by go_simp⟩) hHeld ?_
  simp only [ly1, ly2, ly3, Act.put, ly5, ly6, ly7]
  refine wpAnyH_take (i := 3) (v := .pointer (some ⟨g, 0, none⟩)) rfl (by kernel_rfl) (by kernel_rfl) (by kernel_rfl) (fun _ _ _ h => h) (.inl ⟨by kernel_rfl, fun w _ => by go_simp⟩) hHeld ?_
  simp only [ly1, ly2, ly3, Act.put, ly5, ly6, ly7]
  refine wpAnyH_take (i := 4) (v := .pointer (some ⟨h, 0, none⟩)) rfl (by kernel_rfl) (by kernel_rfl) (by kernel_rfl) (fun _ _ _ h => h) (.inl ⟨by kernel_rfl, fun w hw => by have hw1 := hw.1; go_simp⟩) hHeld ?_
  simp only [ly1, ly2, ly3, Act.put, ly5, ly6, ly7]
  refine wpAnyH_take (i := 5) (v := .agg H) rfl (by kernel_rfl) (by kernel_rfl) (by kernel_rfl) (fun _ _ _ h => h) (yieldsIf_load_mid (by kernel_rfl) _ _ rfl _ _ rfl _ _ (fun w hw => hw.2) Try.underlying76 rfl hi) hHeld ?_
  simp only [ly1, ly2, ly3, Act.put, ly5, ly6, ly7]
  refine wpAnyH_ready (rs := [6]) (by kernel_rfl) (by simp) (AllReadyH.cons rfl (fun K hK => ?_) AllReadyH.nil)
  have hK' := hid hK
  clear hK
  rw [if_pos (by kernel_rfl)]
  simp only [ly1, ly2, ly3]
  go_simp
  refine hW'.out.mono ?_
  rintro e w1 ⟨r', rfl, h1, h2, h3⟩
  obtain ⟨hend, hB1⟩ := putSt_wrote hC'.out hr'.out h1 h2 h3
  have hh1 := hend.held (List.mem_cons_self ..)
  have hc1 : w1.cell? ⟨g, 0, none⟩ = some (.pointer (some ⟨h, 0, none⟩)) := by
    obtain ⟨r2, k1, _⟩ := hend
    have := k1.1.cell 0
    simpa using this
  have hrow1 : w1.rangeAt w.heap.size 0 H.toList := hh1.range 0 _ (fun j _ => by rw [Nat.zero_add])
  have hfin := hid (show PutSt w1 B g h (s ++ x) ext ∧ Below B w w1 from ⟨hend.sub (fun y hy => List.mem_cons_of_mem _ hy), (hB'.out.drew).trans hB1⟩)
  clear h1 h2 h3 hend hB1 hh1
  refine hK'.out _ _ (by exact ⟨hc1, hrow1⟩) (fun hHeld => ?_)
  clear hK' K
  refine wpAnyH_ready (rs := [7]) (by kernel_rfl) (by simp) (AllReadyH.cons rfl (fun K hK => ?_) AllReadyH.nil)
  have hK' := hid hK
  clear hK
  rw [if_pos (by kernel_rfl)]
  simp only [ly1, ly2, ly3]
  go_simp
  refine (cnote_ok g w1).mono ?_
  rintro e w2 ⟨rfl, rfl⟩
  refine hK'.out _ _ (by exact ⟨hc1, hrow1⟩) (fun hHeld => ?_)
  clear hK' K
  refine wpAnyH_done (by kernel_rfl) ?_ _
  go_end0
  exact ⟨rfl, hfin.out⟩

end Go.Proofs.Ytapegklffglnoaa
