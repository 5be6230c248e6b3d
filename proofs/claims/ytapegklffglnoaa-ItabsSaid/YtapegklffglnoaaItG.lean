/- Layer 14: codec.Items of inodes. -/
import Derived.Test.YtapegklffglnoaaItF
namespace Go.Proofs.Ytapegklffglnoaa
open Go.RowKit

/-- What Items answers. -/
def ItemsPost (B g h n0 : Nat) (ext : Exts) (R : List Ino) (l' : ByteArray) (f' : Bool) (w : World) (e : Ending) (w' : World) : Prop :=
  ∃ A c ex, e = .returned (.slice A R.length c) ∧ Got n0 A c R ex ∧ GetSt w' B g h l' f' (ex ++ ext) ∧ Below B w w'

set_option maxRecDepth 100000 in
set_option maxHeartbeats 6000000 in
theorem itemsIno_any (R : List Ino) (x : Int) (l1 l' : ByteArray) (f1 f' : Bool) (B g h b : Nat) (l : ByteArray) (f : Bool) (ext : Exts) (w : World) (hp : GetSt w B g h l f ext) (hk1 : rnumS l f 1 = (x, l1, f1)) (hk : itemsS x.toNat l1 f1 = (R, l', f'))
    (mb : (b, 94, [Value.pointer (some ⟨g, 0, none⟩)]) ∈ ext) :
    Calls Try.prog 83 #[.pointer (some ⟨g, 0, none⟩), .int .i64 1, .func (.func 84) #[] #[.pointer (some ⟨b, 0, none⟩)]] w (ItemsPost B g h w.heap.size ext R l' f' w) := by
  obtain ⟨ih, hhi, hhz, hhs, hhb⟩ := info_parts Try.infoInoI
  obtain ⟨hx0, hx1⟩ := rnumS_small hk1
  obtain ⟨m, rfl⟩ : ∃ m : Nat, x = (m : Int) := ⟨x.toNat, by omega⟩
  have hm : m ≤ 255 := by omega
  rw [Int.toNat_natCast] at hk
  have hlt := hid hp.lt
  have hBw := hid hp.size
  have hN := hid (cNumR_any 1 (m : Int) f1 B g h l l1 f ext w hp hk1)
  obtain ⟨n0, hn0⟩ : ∃ n0, w.heap.size = n0 := ⟨_, rfl⟩
  have hget := hid (fun (y : Ino) (l2 l3 : ByteArray) (f2 f3 : Bool) (ex : Exts) (W : World) (k : GetSt W B g h l2 f2 (ex ++ ext)) (hr : rinoS l2 f2 = (y, l3, f3)) => getIno_any y l3 f3 B g h b l2 f2 (ex ++ ext) W k hr (List.mem_append_right _ mb))
  rw [hn0] at hlt hBw
  have hn0' := hid hn0
  have hk' := hid hk
  rw [hn0]
  clear hp hk hk1 hx0 hx1 mb hn0
  go_enter Try.func83, Try.ntmps83
  go_wp2_with fail
  refine hN.out.mono ?_
  rintro e w1 ⟨rfl, h1, h2⟩
  have h1' := hid h1
  have h2' := hid h2
  clear h1 h2
  go_wp2_with fail
  go_loopw [7, 12] (fun v i wr => ∃ (k : Nat) (xs : List Ino) (A : Option Addr) (c : Nat) (ex : Exts) (lk : ByteArray) (fk : Bool) (Y : List Ino), k = xs.length ∧ k ≤ m ∧ i = .int .i64 (k : Int) ∧ v = .slice A xs.length c ∧ Got n0 A c xs ex ∧ GetSt wr B g h lk fk (ex ++ ext) ∧ Below B w wr ∧ n0 ≤ wr.heap.size ∧ itemsS (m - k) lk fk = (Y, l', f') ∧ (f' = true → R = []) ∧ (f' = false → R = xs ++ Y) ∧ (fk = true → xs = [])) (fun _ i _ => m - (intOf i).toNat)
  case atStart => exact ⟨0, [], none, 0, [], l1, f1, R, rfl, Nat.zero_le _, rfl, rfl, Got.none n0, h1'.out, h2'.out, by have := h2'.out.size; rw [hn0'.out] at this; exact this, hk'.out, fun h => itemsS_nil (h ▸ hk'.out), fun _ => rfl, fun _ => rfl⟩
  case round =>
    obtain ⟨k, xs, A, c, ex, lk, fk, Y, hkx, hkm, rfl, rfl, hgot, hpr, hBr, hnr, hit, hr1, hr2, hr3⟩ := hrel
    have hgot' := hid hgot
    have hBr' := hid hBr
    have hnr' := hid hnr
    have hr1' := hid hr1
    have hr2' := hid hr2
    have hr3' := hid hr3
    have hkx' := hid hkx
    clear hgot hBr hnr hr1 hr2 hr3 hkx
    by_cases hlm : k < m
    · have hlm' : (k : Int) < (m : Int) := by omega
      obtain ⟨y, l2, f2, hr⟩ : ∃ p q r, rinoS lk fk = (p, q, r) := ⟨_, _, _, rfl⟩
      have hcall := hid (hget.out y lk l2 fk f2 ex wr hpr hr)
      rw [show m - k = (m - (k + 1)) + 1 from by omega] at hit
      have hit' := hid hit
      have hrr := hid hr
      clear hpr hit hr
      go_wp2_with fail
      refine hcall.out.mono ?_
      rintro e w2 ⟨rfl, hfy, h3, h4⟩
      have hth := ino_there w2 hfy
      have hsz := ino_size hfy
      have hone := y.one
      have hi1 : (Try.prog.info? 78).map (·.size) = some y.cells.length := by rw [Ino.len hfy]; exact Try.infoIno
      obtain ⟨W1, hW1⟩ : ∃ W1, (w2.alloc (.cells z37 78)).setCells w2.heap.size 0 y.cells = W1 := ⟨_, rfl⟩
      obtain ⟨hv, hb1⟩ := ino_var hfy hW1
      have hp1 := h3.keep hb1
      have hBW := hid (hBr'.out.trans (h4.trans (hb1.mono h3.size)))
      have hnW : n0 ≤ W1.heap.size := Nat.le_trans hnr'.out (Nat.le_trans h4.size hb1.size)
      have hc1 := hp1.failed
      have hp1' := hid hp1
      have hvr := holds_range hv
      have hW1' := hid hW1
      have hfy' := hid hfy
      have hnW' := hid hnW
      clear h3 h4 hv hb1 hp1 hW1 hfy hnW
      cases f2 with
      | true =>
        rw [itemsS_fail hrr.out] at hit'
        obtain ⟨-, e2⟩ := Prod.mk.inj hit'.out
        obtain ⟨rfl, rfl⟩ := Prod.mk.inj e2
        have hR := hid (hr1'.out rfl)
        have hfin : GetSt W1 B g h l2 true ext := hp1'.out.sub fun q hq => List.mem_append_right _ hq
        have hfin' := hid hfin
        clear e2 hfin hit'
        go_wp2_with (first
          | ((with_reducible refine at_slot (some 8) ?_); refine wpList_run rfl (.pointer (some ⟨w2.heap.size, 0, none⟩)) (w2.alloc (.cells z37 78)) (by kernel_rfl) ?_)
          | ((with_reducible refine at_slot none ?_); refine wpList_store_mid rfl 78 (.tmp 8) (.tmp 15) rfl w2.heap.size 0 y.cells.toArray rfl rfl (by exact hth) (by exact hsz) (by exact hone) ?_; rw [hW1'.out])
          | fail)
        go_ret
        rw [hR.out]
        exact ⟨none, 0, [], rfl, Got.none n0, hfin'.out, hBW.out⟩
      | false =>
        obtain ⟨Y2, hy1, hy2, hy3⟩ := itemsS_next hrr.out hit'.out
        have hy1' := hid hy1
        have hy3' := hid hy3
        clear hy1 hy2 hy3 hit' hrr
        obtain ⟨W2, hW2⟩ : ∃ W2, W1.alloc (.cells y.cells.toArray 78) = W2 := ⟨_, rfl⟩
        have hb2 : Below W1.heap.size W1 W2 := by rw [← hW2]; exact (Below.refl _ _).alloc (Nat.le_refl _) _
        have hp2 := hid (hp1'.out.keep hb2)
        have hown := hid (hgot'.out.own hp2.out)
        have hat : At W2 W2.heap.size 37 (some ⟨W1.heap.size, 0, none⟩) 1 y.cells := by
          refine ⟨by rw [Ino.len hfy'.out], .inr ⟨_, rfl, ?_, fun j hj => ?_⟩⟩
          · rw [← hW2]; simp
          · have hh := Holds.new W1 78 y.cells.toArray
            rw [hW2] at hh
            rw [show (⟨W1.heap.size, 0, none⟩ : Addr).add j = ⟨W1.heap.size, j, none⟩ from by unfold Addr.add; split <;> simp_all, hh.cell]
            exact List.getElem?_eq_getElem hj
        have hat' := hid hat
        have hB2 := hid (hBW.out.trans (hb2.mono hp1'.out.size))
        have hn2 := hid (Nat.le_trans hnW'.out hb2.size)
        have hW2' := hid hW2
        have hones : ∀ u ∈ y.cells, u.oneCell' = true := fun u hu => by
          have := Array.all_eq_true_iff_forall_mem.1 hone u (by simpa using hu)
          exact this
        have hones' := hid hones
        clear hb2 hat hW2 hones
        go_wp2_with (first
          | ((with_reducible refine at_slot (some 8) ?_); refine wpList_run rfl (.pointer (some ⟨w2.heap.size, 0, none⟩)) (w2.alloc (.cells z37 78)) (by kernel_rfl) ?_)
          | ((with_reducible refine at_slot none ?_); refine wpList_store_mid rfl 78 (.tmp 8) (.tmp 15) rfl w2.heap.size 0 y.cells.toArray rfl rfl (by exact hth) (by exact hsz) (by exact hone) ?_; rw [hW1'.out])
          | ((with_reducible refine at_slot (some 21) ?_); refine wpList_load_mid rfl 78 (.tmp 8) rfl w2.heap.size 0 rfl y.cells _ (by exact hvr) Try.underlying78 rfl (by exact hi1) ?_)
          | ((with_reducible refine at_slot (some 22) ?_); refine wpList_buildSlice_one rfl 64 78 (.tmp 21) rfl ih _ Try.underlying64 hhi hhz y.cells.toArray rfl (by rw [hhs, List.size_toArray, Ino.len hfy'.out]) (by rw [List.size_toArray, Ino.len hfy'.out]; decide) (by rw [List.size_toArray, Ino.len hfy'.out]; decide) ?_; rw [hW2'.out])
          | (at_builtin; refine wpList_appends rfl (.tmp 20) (.tmp 22) 64 78 rfl n0 ih _ 37 72 Try.underlying64 hhi hhz hhs hhb (by decide) (by decide) A xs.length c (inoCells xs) W2.heap.size (some ⟨W1.heap.size, 0, none⟩) 1 1 y.cells rfl rfl (by intro h; cases h) (by exact hones'.out) (by have := hkx'.out; omega) (by have := hkx'.out; omega) (by exact hown.out) (by exact hat'.out) (by exact hn2.out) ?_; intro A2 c2 w3 hrow hb3 _; have hrow' := hid hrow; have hb3' := hid hb3; clear hrow hb3)
          | fail)
        have hlen : (xs ++ [y]).length = xs.length + 1 := by simp
        have hp3 : GetSt w3 B g h l2 false ext := (hp2.out.sub fun q hq => List.mem_append_right _ hq).keepN hlt.out hb3'.out
        have hfine : ∀ q ∈ xs ++ [y], q.fine := fun q hq => by
          rcases List.mem_append.1 hq with hq | hq
          · exact hgot'.out.1 q hq
          · rw [List.mem_singleton.1 hq]; exact hfy'.out
        have hrow3 := hrow'.out
        rw [← inoCells_snoc, ← hlen] at hrow3
        obtain ⟨ex2, hg2, hpe⟩ := Got.of_own hfine hlt.out hp3 hrow3
        have hrel : Below B w w3 := hB2.out.trans (hb3'.out.mono hBw.out)
        have hn3 : n0 ≤ w3.heap.size := Nat.le_trans hn2.out hb3'.out.size
        go_roundw
        case rel => exact ⟨k + 1, xs ++ [y], A2, c2, ex2, l2, false, Y2, by rw [hlen, hkx'.out], by omega, by go_num, by rw [hlen], hg2, hpe, hrel, hn3, hy1'.out, hr1'.out, fun h => by rw [hr2'.out h, hy3'.out h]; simp, fun h => by cases h⟩
        case measure => simp [intOf]; omega
    · have hlm' : ¬ (k : Int) < (m : Int) := by omega
      have e1 : m - k = 0 := by omega
      rw [e1] at hit
      obtain ⟨rfl, e2⟩ := Prod.mk.inj hit
      obtain ⟨rfl, rfl⟩ := Prod.mk.inj e2
      have hR : R = xs := by
        cases fk with
        | true => rw [hr1'.out rfl, hr3'.out rfl]
        | false => rw [hr2'.out rfl, List.append_nil]
      have hpr' := hid hpr
      have hR' := hid hR
      clear hpr hit e2 hR
      go_wp2_with fail
      go_ret
      rw [hR'.out]
      exact ⟨A, c, ex, rfl, hgot'.out, hpr'.out, hBr'.out⟩

end Go.Proofs.Ytapegklffglnoaa
