/- The codec's Reader: hashes. -/
import Derived.Test.YtapegklffglnoaaCodR
import Derived.Test.YtapegklffglnoaaAts
namespace Go.Proofs.Ytapegklffglnoaa
open Go.RowKit
open Go.Lib (strCells strCells_length strCells_oneCell)

/-- A hash's cells. -/
def hcells (x : ByteArray) : Array Value := (strCells x).toArray
theorem hcells_of {x : ByteArray} (h : x.size = 32) : HashOf (hcells x) x := ⟨rfl, h⟩

/-- A hash read. -/
def rhashS (l : ByteArray) (f : Bool) : ByteArray × ByteArray × Bool := if f then (noHash, l, true) else if l.size < 32 then (noHash, l, true) else (l.extract 0 32, l.extract 32 l.size, false)
theorem z32_cells : z32 = hcells noHash := by kernel_rfl

section
variable {w w' : World} {B g h : Nat} {l l' : ByteArray} {f : Bool} {ext : Exts}
/-- Its blocks lie below n. -/
def ExtLt (n g h : Nat) (ext : Exts) : Prop := g < n ∧ h < n ∧ ∀ x ∈ ext, x.1 < n
theorem GetSt.lt (hp : GetSt w B g h l f ext) : ExtLt w.heap.size g h ext := ⟨hp.1.lt, Holds.lt hp.2.1, fun x hx => (hp.2.2.2.1 x hx).1.lt⟩
/-- A store elsewhere. -/
theorem GetSt.far (hp : GetSt w B g h l f ext) {n q : Nat} (hn : ExtLt n g h ext) (hq : n ≤ q) (vs : List Value) : GetSt (w.setCells q 0 vs) B g h l f ext := by
  obtain ⟨k1, k2, k3, k4, k5, k6, k7⟩ := hp
  obtain ⟨n1, n2, n3⟩ := hn
  exact ⟨k1.fars _ _ _ (by omega), Holds.fars k2 _ _ _ (by omega), k3, fun x hx => ⟨(k4 x hx).1.fars _ _ _ (by have := n3 x hx; omega), (k4 x hx).2⟩, k5, k6, by
    have := (below_setCells (Below.refl 0 w) q 0 vs (Nat.zero_le _)).size
    omega⟩
end

/-- The result's cell written whole: what holds then. -/
theorem keep_out {w W : World} {B g h : Nat} {l : ByteArray} {f : Bool} {ext : Exts} {q : Nat} (H : Array Value) (cs : List Value) (hp : GetSt W B g h l f ext) (hn : ExtLt q g h ext) (hh : Holds W q 76 cs) (hcs : cs.length = H.size) (hB : B ≤ q) (hb : Below B w W) :
    ∃ V, W.setCells q 0 H.toList = V ∧ V.heap[q]? = some (.cells H 76 (0, 0)) ∧ GetSt V B g h l f ext ∧ Below B w V := by
  refine ⟨_, rfl, ?_, GetSt.far hp hn (Nat.le_refl _) _, below_setCells hb _ _ _ hB⟩
  have h1 := hh.put 0 H.toList (by rw [hcs]; simp)
  rw [put_all _ _ (by rw [hcs]; simp)] at h1
  unfold Holds at h1
  simpa using h1

/-- A hash in a variable of its own. -/
theorem hash_kept {w : World} {B g h : Nat} {l : ByteArray} {f : Bool} {ext : Exts} (H : Array Value) (hH : H.size = 32) (hp : GetSt w B g h l f ext) :
    ∃ V, (w.alloc (.cells z32 76)).setCells w.heap.size 0 H.toList = V ∧ GetSt V B g h l f ((w.heap.size, 76, H.toList) :: ext) ∧ Below B w V ∧ (w.alloc (.cells z32 76)).there w.heap.size 0 H.size := by
  have h0 := Holds.new w 76 z32
  have hl : z32.toList.length = 32 := by kernel_rfl
  have hb : Below w.heap.size w ((w.alloc (.cells z32 76)).setCells w.heap.size 0 H.toList) := below_setCells ((Below.refl _ _).alloc (Nat.le_refl _) _) _ _ _ (Nat.le_refl _)
  obtain ⟨k1, k2, k3, k4, k5, k6, k7⟩ := hp.keep hb
  have l1 := hp.1.lt
  have l2 := Holds.lt hp.2.1
  refine ⟨_, rfl, ⟨k1, k2, k3, fun x hx => ?_, k5, k6, k7⟩, hb.mono hp.size, h0.there 0 _ (by rw [hl, hH]; decide)⟩
  rcases List.mem_cons.1 hx with rfl | hx
  · have h1 := h0.put 0 H.toList (by rw [hl]; simp [hH])
    rw [put_all _ _ (by rw [hl]; simp [hH])] at h1
    exact ⟨h1, by show w.heap.size ≠ g; omega, by show w.heap.size ≠ h; omega⟩
  · exact k4 x hx

set_option maxRecDepth 100000 in
set_option maxHeartbeats 4000000 in
theorem keepHash_any (x : ByteArray) (f' : Bool) (B g h : Nat) (l l' : ByteArray) (f : Bool) (ext : Exts) (w : World) (hp : GetSt w B g h l f ext) (hk : rhashS l f = (x, l', f')) :
    Calls Try.prog 113 #[.pointer (some ⟨g, 0, none⟩), .func (.func 114) #[.pointer (some ⟨h, 0, none⟩)] #[]] w fun e w' => e = .returned (.agg (hcells x)) ∧ GetSt w' B g h l' f' ext ∧ Below B w w' := by
  obtain ⟨ih, hhi, hhz, hhs, hhb⟩ := info_parts Try.infoHashI
  have hlt := hid hp.lt
  have hBw := hp.size
  obtain ⟨W, hW⟩ : ∃ W, (w.alloc (.cells z32 76)).alloc (.cells z32 76) = W := ⟨_, rfl⟩
  have hb0 : Below w.heap.size w W := by rw [← hW]; exact ((Below.refl _ _).alloc (Nat.le_refl _) _).alloc (by simp) _
  have hW4 : Holds W w.heap.size 76 z32.toList := by rw [← hW]; exact (Holds.new w _ z32).alloc _
  have hW5 : Holds W (w.heap.size + 1) 76 z32.toList := by
    rw [← hW]
    have := Holds.new (w.alloc (.cells z32 76)) 76 z32
    rwa [alloc_size] at this
  have hpW := hp.keep hb0
  have hWs : W.heap.size = w.heap.size + 2 := by rw [← hW]; simp
  have hf := hpW.failed
  have hW' := hid hW
  have hp' := hid hpW
  have hb0' := hid hb0
  have hW4' := hid hW4
  have hW5' := hid hW5
  have hWs' := hid hWs
  have hi32 : (Try.prog.info? 76).map (·.size) = some z32.toList.length := by kernel_rfl
  have hz32l : z32.toList.length = 32 := by kernel_rfl
  cases f with
  | true =>
    have hk2 : (noHash, l, true) = (x, l', f') := hk
    obtain ⟨rfl, hk'⟩ := Prod.mk.inj hk2
    obtain ⟨rfl, rfl⟩ := Prod.mk.inj hk'
    have hth : W.there w.heap.size 0 z32.size := hW4.there 0 _ (by rw [hz32l]; decide)
    obtain ⟨V, hV1, hV2, hV3, hV4⟩ := keep_out z32 z32.toList hpW hlt.out hW4 rfl hBw (hb0.mono hBw)
    have hV1' := hid hV1
    have hV2' := hid hV2
    have hV3' := hid hV3
    have hV4' := hid hV4
    clear hp hpW hk hk2 hk' hW hb0 hW4 hW5 hWs hV1 hV2 hV3 hV4 hBw
    go_enter Try.func113, Try.ntmps113
    go_wp2_with (first
      | ((with_reducible refine at_slot (some 4) ?_); refine wpList_alloc_row rfl 76 rfl ih _ hhi hhz z32 rfl ?_)
      | ((with_reducible refine at_slot (some 5) ?_); refine wpList_alloc_row rfl 76 rfl ih _ hhi hhz z32 rfl ?_; rw [hW'.out])
      | ((with_reducible refine at_slot (some 12) ?_); refine wpList_load_mid rfl 76 (.tmp 5) rfl (w.heap.size + 1) 0 rfl z32.toList _ (by exact hW5'.out.range 0 _ (fun j _ => by rw [Nat.zero_add])) Try.underlying76 rfl (by exact hi32) ?_)
      | ((with_reducible refine at_slot none ?_); refine wpList_store_mid rfl 76 (.tmp 4) (.tmp 12) rfl w.heap.size 0 z32 rfl rfl (by exact hth) (by kernel_rfl) (by kernel_rfl) ?_)
      | fail)
    rw [hV1'.out]
    exact bodyPost_ret (results_cell_row rfl _ _ w.heap.size 76 z32 (0, 0) _ rfl hV2'.out Try.underlying76 rfl (by exact hi32)) rfl ⟨by rw [z32_cells], hV3'.out, hV4'.out⟩
  | false =>
    have hX : GetSt W B g h l false ((w.heap.size + 1, 76, z32.toList) :: (w.heap.size, 76, z32.toList) :: ext) := by
      have h2 := (hp.with z32 76).with z32 76
      rw [hW] at h2
      have e1 : (w.alloc (.cells z32 76)).heap.size = w.heap.size + 1 := by simp
      rw [e1] at h2
      exact h2
    by_cases hl : l.size < 32
    · have hk2 : (noHash, l, true) = (x, l', f') := by rw [← hk]; simp [rhashS, hl]
      obtain ⟨rfl, hk'⟩ := Prod.mk.inj hk2
      obtain ⟨rfl, rfl⟩ := Prod.mk.inj hk'
      have hN := RHash_cut h l hl W hpW.2.1
      clear hk2 hk'
      obtain ⟨Hc, hHc⟩ : ∃ Hc : Array Value, Hc = z32 := ⟨_, rfl⟩
      have hHz : Hc.size = 32 := by rw [hHc]; kernel_rfl
      have hx := hid (show Hc = hcells noHash from by rw [hHc, z32_cells])
      have hiS : (Try.prog.info? 76).map (·.size) = some Hc.size := by rw [hHz]; exact Try.infoHash
      have hall : Hc.all (·.oneCell') = true := by rw [hHc]; kernel_rfl
      rw [← hHc] at hN
      have hN' := hid hN
      have hBw' := hid hBw
      have hX' := hid hX
      clear hp hpW hk hW hb0 hW4 hW5 hWs hX hN hHc hBw
      go_enter Try.func113, Try.ntmps113
      go_wp2_with (first
        | ((with_reducible refine at_slot (some 4) ?_); refine wpList_alloc_row rfl 76 rfl ih _ hhi hhz z32 rfl ?_)
        | ((with_reducible refine at_slot (some 5) ?_); refine wpList_alloc_row rfl 76 rfl ih _ hhi hhz z32 rfl ?_; rw [hW'.out])
        | fail)
      refine hN'.out.mono ?_
      rintro e w1 ⟨rfl, h1, h2⟩
      obtain ⟨hY, hYB⟩ := hX'.out.read h1 h2
      obtain ⟨V1, hV1, hY1, hVB, hth⟩ := hash_kept Hc hHz hY
      have hV1' := hid hV1
      have hth' := hid hth
      have hB1 := hid ((hb0'.out.mono hBw'.out).trans (hYB.trans hVB))
      clear hY hYB hVB hV1 hth h1 h2
      have hc := hY1.failed
      have hz := hY1.1.frozen 1
      obtain ⟨hY2, hB2⟩ := hY1.fail
      have hH5 := hid (hY2.held (List.mem_cons_of_mem _ (List.mem_cons_self ..)))
      have hH4 := hY2.held (List.mem_cons_of_mem _ (List.mem_cons_of_mem _ (List.mem_cons_self ..)))
      have hY3 : GetSt (V1.setCell ⟨g, 1, none⟩ (.bool true)) B g h l true ext := hY2.tail.tail.tail
      have hth4 := hid (hH4.there 0 z32.size (by rw [hz32l]; decide))
      obtain ⟨V, hV2, hV3, hV4, hV5⟩ := keep_out z32 z32.toList hY3 hlt.out hH4 rfl hBw'.out (hB1.out.trans hB2)
      have hV2' := hid hV2
      have hV3' := hid hV3
      have hV4' := hid hV4
      have hV5' := hid hV5
      clear hY1 hY2 hB2 hH4 hY3 hV2 hV3 hV4 hV5
      go_wp2_with (first
        | ((with_reducible refine at_slot (some 6) ?_); refine wpList_alloc_row rfl 76 rfl ih _ hhi hhz z32 rfl ?_)
        | ((with_reducible refine at_slot none ?_); refine wpList_store_mid rfl 76 (.tmp 6) (.tmp 16) rfl w1.heap.size 0 Hc rfl rfl (by exact hth'.out) (by exact hiS) (by exact hall) ?_; rw [hV1'.out])
        | ((with_reducible refine at_slot (some 23) ?_); refine wpList_load_mid rfl 76 (.tmp 5) rfl (w.heap.size + 1) 0 rfl z32.toList _ (by exact hH5.out.range 0 _ (fun j _ => by rw [Nat.zero_add])) Try.underlying76 rfl (by exact hi32) ?_)
        | ((with_reducible refine at_slot none ?_); refine wpList_store_mid rfl 76 (.tmp 4) (.tmp 23) rfl w.heap.size 0 z32 rfl rfl (by exact hth4.out) (by kernel_rfl) (by kernel_rfl) ?_; rw [hV2'.out])
        | fail)
      exact bodyPost_ret (results_cell_row rfl _ _ w.heap.size 76 z32 (0, 0) _ rfl hV3'.out Try.underlying76 rfl (by exact hi32)) rfl ⟨by rw [z32_cells], hV4'.out, hV5'.out⟩
    · have hk2 : (l.extract 0 32, l.extract 32 l.size, false) = (x, l', f') := by rw [← hk]; simp [rhashS, hl]
      obtain ⟨rfl, hk'⟩ := Prod.mk.inj hk2
      obtain ⟨rfl, rfl⟩ := Prod.mk.inj hk'
      have h32 : (l.extract 0 32).size = 32 := by rw [ByteArray.size_extract]; omega
      have hN := RHash_ok h l (by omega) W hpW.2.1 _ _ rfl rfl _ (hcells_of h32)
      clear hk2 hk'
      obtain ⟨Hc, hHc⟩ : ∃ Hc : Array Value, Hc = hcells (l.extract 0 32) := ⟨_, rfl⟩
      have hHz : Hc.size = 32 := by rw [hHc]; exact (hcells_of h32).len
      have hx := hid hHc
      have hiS : (Try.prog.info? 76).map (·.size) = some Hc.size := by rw [hHz]; exact Try.infoHash
      have hall : Hc.all (·.oneCell') = true := by rw [hHc]; exact (hcells_of h32).one
      rw [← hHc] at hN
      have hN' := hid hN
      have hBw' := hid hBw
      have hX' := hid hX
      clear hp hpW hk hW hb0 hW4 hW5 hWs hX hN hHc hBw
      go_enter Try.func113, Try.ntmps113
      go_wp2_with (first
        | ((with_reducible refine at_slot (some 4) ?_); refine wpList_alloc_row rfl 76 rfl ih _ hhi hhz z32 rfl ?_)
        | ((with_reducible refine at_slot (some 5) ?_); refine wpList_alloc_row rfl 76 rfl ih _ hhi hhz z32 rfl ?_; rw [hW'.out])
        | fail)
      refine hN'.out.mono ?_
      rintro e w1 ⟨rfl, h1, h2⟩
      obtain ⟨hY, hYB⟩ := hX'.out.read h1 h2
      obtain ⟨V1, hV1, hY1, hVB, hth⟩ := hash_kept Hc hHz hY
      have hV1' := hid hV1
      have hth' := hid hth
      have hB1 := hid ((hb0'.out.mono hBw'.out).trans (hYB.trans hVB))
      clear hY hYB hVB hV1 hth h1 h2
      have hH6 := hid (hY1.held (List.mem_cons_self ..))
      have hH4 := hY1.held (List.mem_cons_of_mem _ (List.mem_cons_of_mem _ (List.mem_cons_self ..)))
      have hY3 : GetSt V1 B g h (l.extract 32 l.size) false ext := hY1.tail.tail.tail
      have hth4 := hid (hH4.there 0 Hc.size (by rw [hz32l, hHz]; decide))
      have hiH : (Try.prog.info? 76).map (·.size) = some Hc.toList.length := by rw [Array.length_toList, hHz]; exact Try.infoHash
      obtain ⟨V, hV2, hV3, hV4, hV5⟩ := keep_out Hc z32.toList hY3 hlt.out hH4 (by rw [hz32l, hHz]) hBw'.out hB1.out
      have hV2' := hid hV2
      have hV3' := hid hV3
      have hV4' := hid hV4
      have hV5' := hid hV5
      clear hY1 hH4 hY3 hV2 hV3 hV4 hV5
      go_wp2_with (first
        | ((with_reducible refine at_slot (some 6) ?_); refine wpList_alloc_row rfl 76 rfl ih _ hhi hhz z32 rfl ?_)
        | ((with_reducible refine at_slot none ?_); refine wpList_store_mid rfl 76 (.tmp 6) (.tmp 16) rfl w1.heap.size 0 Hc rfl rfl (by exact hth'.out) (by exact hiS) (by exact hall) ?_; rw [hV1'.out])
        | ((with_reducible refine at_slot (some 24) ?_); refine wpList_load_mid rfl 76 (.tmp 6) rfl w1.heap.size 0 rfl Hc.toList _ (by exact hH6.out.range 0 _ (fun j _ => by rw [Nat.zero_add])) Try.underlying76 rfl (by exact hiH) ?_)
        | ((with_reducible refine at_slot none ?_); refine wpList_store_mid rfl 76 (.tmp 4) (.tmp 24) rfl w.heap.size 0 Hc rfl rfl (by exact hth4.out) (by exact hiS) (by exact hall) ?_; rw [hV2'.out])
        | fail)
      exact bodyPost_ret (results_cell_row rfl _ _ w.heap.size 76 Hc (0, 0) _ rfl hV3'.out Try.underlying76 rfl (by exact hiH)) rfl ⟨by rw [hx.out], hV4'.out, hV5'.out⟩

end Go.Proofs.Ytapegklffglnoaa
