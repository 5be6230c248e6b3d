/- The codec's Reader: Hash. -/
import Derived.Test.YtapegklffglnoaaCodX
namespace Go.Proofs.Ytapegklffglnoaa
open Go.RowKit
open Go.Lib (strCells strCells_length strCells_oneCell)

theorem rhashS_size {l l' x : ByteArray} {f f' : Bool} (h : rhashS l f = (x, l', f')) : x.size = 32 := by
  unfold rhashS at h
  split at h
  · rw [← (Prod.mk.inj h).1]; decide +kernel
  · split at h
    · rw [← (Prod.mk.inj h).1]; decide +kernel
    · rw [← (Prod.mk.inj h).1, ByteArray.size_extract]; omega

set_option maxRecDepth 100000 in
set_option maxHeartbeats 2000000 in
theorem cHashR_any (x : ByteArray) (f' : Bool) (B g h : Nat) (l l' : ByteArray) (f : Bool) (ext : Exts) (w : World) (hp : GetSt w B g h l f ext) (hk : rhashS l f = (x, l', f')) :
    Calls Try.prog 85 #[.pointer (some ⟨g, 0, none⟩)] w fun e w' => e = .returned (.agg (hcells x)) ∧ GetSt w' B g h l' f' ext ∧ Below B w w' := by
  obtain ⟨ih, hhi, hhz, hhs, hhb⟩ := info_parts Try.infoHashI
  have hz32l : z32.toList.length = 32 := by kernel_rfl
  have hlt := hid hp.lt
  have hBw := hp.size
  have hx := hcells_of (rhashS_size hk)
  obtain ⟨W, hW⟩ : ∃ W, w.alloc (.cells z32 76) = W := ⟨_, rfl⟩
  have hX : GetSt W B g h l f ((w.heap.size, 76, z32.toList) :: ext) := by rw [← hW]; exact hp.with z32 _
  have hb0 : Below B w W := by rw [← hW]; exact (Below.refl _ _).alloc hBw _
  have hK := hid (keepHash_any x f' B g h l l' f _ W hX hk)
  have c1 := hX.in_
  obtain ⟨Hc, hHc⟩ : ∃ Hc : Array Value, Hc = hcells x := ⟨_, rfl⟩
  rw [← hHc] at hx hK
  have hiS : (Try.prog.info? 76).map (·.size) = some Hc.size := by rw [hx.len]; exact Try.infoHash
  have hiH : (Try.prog.info? 76).map (·.size) = some Hc.toList.length := by rw [Array.length_toList]; exact hiS
  have hall : Hc.all (·.oneCell') = true := hx.one
  have hHz := hx.len
  have hHc' := hid hHc
  have hW' := hid hW
  have hb0' := hid hb0
  have hBw' := hid hBw
  clear hp hX hk hx hW hb0 hBw hHc
  go_enter Try.func85, Try.ntmps85
  go_wp2_with (first
    | ((with_reducible refine at_slot (some 2) ?_); refine wpList_alloc_row rfl 76 rfl ih _ hhi hhz z32 rfl ?_; rw [hW'.out])
    | fail)
  refine hK.out.mono ?_
  rintro e w1 ⟨rfl, h1, h2⟩
  have hh := h1.held (List.mem_cons_self ..)
  have hth := hid (hh.there 0 Hc.size (by rw [hz32l, hHz]; decide))
  obtain ⟨V, hV2, hV3, hV4, hV5⟩ := keep_out Hc z32.toList h1.tail hlt.out hh (by rw [hz32l, hHz]) hBw'.out (hb0'.out.trans h2)
  have hV2' := hid hV2
  have hV3' := hid hV3
  have hV4' := hid hV4
  have hV5' := hid hV5
  clear h1 h2 hh hV2 hV3 hV4 hV5
  go_wp2_with (first
    | ((with_reducible refine at_slot none ?_); refine wpList_store_mid rfl 76 (.tmp 2) (.tmp 9) rfl w.heap.size 0 Hc rfl rfl (by exact hth.out) (by exact hiS) (by exact hall) ?_; rw [hV2'.out])
    | fail)
  exact bodyPost_ret (results_cell_row rfl _ _ w.heap.size 76 Hc (0, 0) _ rfl hV3'.out Try.underlying76 rfl (by exact hiH)) rfl ⟨by rw [hHc'.out], hV4'.out, hV5'.out⟩

end Go.Proofs.Ytapegklffglnoaa
