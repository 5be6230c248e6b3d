/- Layer 14: Get. -/
import Derived.Test.YtapegklffglnoaaItG
namespace Go.Proofs.Ytapegklffglnoaa
open Go.RowKit

/-- What Get answers. -/
noncomputable def getS (s : ByteArray) : List Ino × Int :=
  if !(itemsS (rnumS (rmarkS 84 s false).1 (rmarkS 84 s false).2 1).1.toNat (rnumS (rmarkS 84 s false).1 (rmarkS 84 s false).2 1).2.1 (rnumS (rmarkS 84 s false).1 (rmarkS 84 s false).2 1).2.2).2.2
    && decide ((itemsS (rnumS (rmarkS 84 s false).1 (rmarkS 84 s false).2 1).1.toNat (rnumS (rmarkS 84 s false).1 (rmarkS 84 s false).2 1).2.1 (rnumS (rmarkS 84 s false).1 (rmarkS 84 s false).2 1).2.2).2.1.size = 0)
    && itabB (itemsS (rnumS (rmarkS 84 s false).1 (rmarkS 84 s false).2 1).1.toNat (rnumS (rmarkS 84 s false).1 (rmarkS 84 s false).2 1).2.1 (rnumS (rmarkS 84 s false).1 (rmarkS 84 s false).2 1).2.2).1
  then ((itemsS (rnumS (rmarkS 84 s false).1 (rmarkS 84 s false).2 1).1.toNat (rnumS (rmarkS 84 s false).1 (rmarkS 84 s false).2 1).2.1 (rnumS (rmarkS 84 s false).1 (rmarkS 84 s false).2 1).2.2).1, 0)
  else ([], 1400)
theorem getS_eq {s l0 l1 l' : ByteArray} {f0 f1 f' : Bool} {x : Int} {R : List Ino} (h0 : rmarkS 84 s false = (l0, f0)) (h1 : rnumS l0 f0 1 = (x, l1, f1)) (h2 : itemsS x.toNat l1 f1 = (R, l', f')) :
    getS s = if !f' && decide (l'.size = 0) && itabB R then (R, 0) else ([], 1400) := by
  unfold getS
  simp only [h0, h1, h2]

def GetPost (R : List Ino) (x : Int) (w : World) (e : Ending) (w' : World) : Prop :=
  ∃ A c, e = .returned (.tuple #[.slice A R.length c, .int .i64 x]) ∧ w'.ownsRow w.heap.size 78 37 (.slice A R.length c) R.length (inoCells R) ∧ (∀ q ∈ R, q.fine) ∧ Below w.heap.size w w'
theorem GetPost.nil {w w' : World} (hb : Below w.heap.size w w') : GetPost [] 1400 w (.returned (.tuple #[.slice none 0 0, .int .i64 1400])) w' := ⟨none, 0, rfl, World.ownsRow_nil _ _ _ _, fun q hq => (by cases hq), hb⟩

theorem inos_of_own {w : World} {n0 c : Nat} {A : Option Addr} {xs : List Ino} (hf : ∀ x ∈ xs, x.fine) (h : w.ownsRow n0 78 37 (.slice A xs.length c) xs.length (inoCells xs)) : Inos w w.heap.size A xs.length xs := by
  have hat := At.of_own h
  refine ⟨rfl, hf, ?_⟩
  rcases hat.2 with h0 | ⟨p, hA, hB, hc⟩
  · exact .inl h0
  · refine .inr ⟨p, hA, hB, fun i hi j v hv => ?_⟩
    have h1 := inoCells_at hf i hi j v hv
    obtain ⟨hlt, hv2⟩ := List.getElem?_eq_some_iff.1 h1
    have h2 := hc _ hlt
    rw [hv2] at h2
    rw [show (p.add (i * 37)).add j = p.add (i * 37 + j) from add_add _ _ _]
    exact h2

theorem itemsS_length {m : Nat} : ∀ {l l' : ByteArray} {f f' : Bool} {R : List Ino}, itemsS m l f = (R, l', f') → R.length ≤ m := by
  induction m with
  | zero => intro l l' f f' R h; rw [← (Prod.mk.inj h).1]; exact Nat.le_refl _
  | succ m ih =>
    intro l l' f f' R h
    unfold itemsS at h
    split at h
    · rw [← (Prod.mk.inj h).1]; exact Nat.zero_le _
    · split at h
      · rw [← (Prod.mk.inj h).1]; exact Nat.zero_le _
      · rw [← (Prod.mk.inj h).1, List.length_cons]
        have := ih (l := (rinoS l f).2.1) (f := false) rfl
        omega

theorem own_less {w : World} {n n' c k sz : Nat} {A : Option Addr} {t : TypeId} {cs : List Value} (h : w.ownsRow n t sz (.slice A k c) k cs) (hn : n' ≤ n) : w.ownsRow n' t sz (.slice A k c) k cs := by
  obtain ⟨h1, h2 | ⟨g, cap, cur, hv, hb, rest⟩⟩ := h
  · exact ⟨h1, .inl h2⟩
  · exact ⟨h1, .inr ⟨g, cap, cur, hv, Nat.le_trans hn hb, rest⟩⟩

set_option maxRecDepth 100000 in
set_option maxHeartbeats 4000000 in
theorem itabGet_any (s : ByteArray) (R : List Ino) (x : Int) (hs : getS s = (R, x)) (w : World) : Calls Try.prog 41 #[.string s] w (GetPost R x w) := by
  obtain ⟨l0, f0, e0⟩ : ∃ p q, rmarkS 84 s false = (p, q) := ⟨_, _, rfl⟩
  obtain ⟨n, l1, f1, e1⟩ : ∃ p q r, rnumS l0 f0 1 = (p, q, r) := ⟨_, _, _, rfl⟩
  obtain ⟨R2, l2, f2, e2⟩ : ∃ p q r, itemsS n.toNat l1 f1 = (p, q, r) := ⟨_, _, _, rfl⟩
  rw [getS_eq e0 e1 e2] at hs
  have hlen : R2.length ≤ 255 := by
    have h1 := itemsS_length e2
    have h2 := rnumS_small e1
    omega
  obtain ⟨q, hq⟩ : ∃ q, w.heap.size = q := ⟨_, rfl⟩
  have hp0 := GetSt.fresh w s
  have hb0 : Below w.heap.size w (((w.alloc (.cells #[.string s] 158)).alloc (.cells #[.pointer (some ⟨w.heap.size, 0, none⟩), .bool false] 138)).alloc (.cells #[.pointer (some ⟨w.heap.size + 1, 0, none⟩)] 94)) :=
    (((Below.refl w.heap.size w).alloc (Nat.le_refl _) _).alloc (by simp) _).alloc (by simp; omega) _
  have hc0 := (hp0.held (List.mem_cons_self ..)).cell 0
  simp at hc0
  have hM1 := cMarkR_any 84 _ _ _ _ _ _ f0 _ _ hp0 e0
  rw [hq] at hM1 hb0 hc0
  have hM := hid hM1
  have hq' := hid hq
  have hb0' := hid hb0
  have hs' := hid hs
  have e1' := hid e1
  have e2' := hid e2
  clear hp0 hb0 hs e0 e1 e2 hM1
  go_enter Try.func41, Try.ntmps41
  go_wp2_with (go_at_call 60; refine (codecOpen_any _ _).mono ?_; rintro e w' ⟨rfl, rfl⟩)
  refine hM.out.mono ?_
  rintro e w2 ⟨rfl, h2, hb2⟩
  have hc2 := (h2.held (List.mem_cons_self ..)).cell 0
  simp at hc2
  have hI := hid (itemsIno_any R2 n l1 l2 f1 f2 q (q + 1) q (q + 1 + 1) l0 f0 _ w2 h2 e1'.out e2'.out (List.mem_cons_self ..))
  have hbq := hid (hb0'.out.trans hb2)
  have hq2 := hid h2.size
  clear h2 hb2
  go_wp2_with fail
  refine hI.out.mono ?_
  rintro e w3 ⟨A, c, ex, rfl, hgot, h3, hb3⟩
  have hc3 := (h3.held (List.mem_append_right ex (List.mem_cons_self ..))).cell 0
  simp at hc3
  have hD := hid (cDone_any q (q + 1) q l2 f2 _ w3 h3)
  have hb4 := hid (hbq.out.trans hb3)
  have h3' := hid h3
  have hgot' := hid hgot
  clear h3 hb3 hgot
  cases hd : (!f2 && decide (l2.size = 0)) with
  | false =>
    rw [hd] at hD
    have hr : (([] : List Ino), (1400 : Int)) = (R, x) := by rw [← hs'.out, hd]; rfl
    obtain ⟨rfl, rfl⟩ := Prod.mk.inj hr
    clear hr hd
    go_wp2_with fail
    refine hD.out.mono ?_
    rintro e w4 ⟨rfl, rfl⟩
    go_wp2_with fail
    go_ret2
    exact GetPost.nil (by rw [hq'.out]; exact hb4.out)
  | true =>
    rw [hd] at hD
    have hMay := hid (itabMay_any A R2.length c w3.heap.size R2 w3 (hgot'.out.inos h3'.out) (Nat.le_refl _) (by omega))
    have hs2 := hs'.out
    rw [hd, Bool.true_and] at hs2
    cases hi : itabB R2 with
    | false =>
      rw [hi] at hMay hs2
      obtain ⟨rfl, rfl⟩ := Prod.mk.inj hs2
      clear hs2 hi hd
      go_wp2_with fail
      refine hD.out.mono ?_
      rintro e w4 ⟨rfl, rfl⟩
      go_wp2_with fail
      refine hMay.out.mono ?_
      rintro e w5 ⟨rfl, h5⟩
      have hb5 := hid (hb4.out.trans (h5.mono h3'.out.size))
      clear h5
      go_wp2_with fail
      go_ret2
      exact GetPost.nil (by rw [hq'.out]; exact hb5.out)
    | true =>
      rw [hi] at hMay hs2
      obtain ⟨rfl, rfl⟩ := Prod.mk.inj hs2
      clear hs2 hi hd
      go_wp2_with fail
      refine hD.out.mono ?_
      rintro e w4 ⟨rfl, rfl⟩
      go_wp2_with fail
      refine hMay.out.mono ?_
      rintro e w5 ⟨rfl, h5⟩
      have hb5 := hid (hb4.out.trans (h5.mono h3'.out.size))
      have hown := hid (own_less (hgot'.out.own (h3'.out.keep h5)) hq2.out)
      clear h5
      go_wp2_with fail
      go_ret2
      exact ⟨A, c, rfl, by rw [hq'.out]; exact hown.out, hgot'.out.1, by rw [hq'.out]; exact hb5.out⟩

end Go.Proofs.Ytapegklffglnoaa
