/- The codec's Reader: texts. -/
import Derived.Test.YtapegklffglnoaaCodR
import Derived.Test.YtapegklffglnoaaWireR
namespace Go.Proofs.Ytapegklffglnoaa
open Go.RowKit

/-- A text read: what it is, what is left, has it failed? -/
def rtextS (l : ByteArray) (f : Bool) (size : Int) : ByteArray × ByteArray × Bool :=
  if f then (ByteArray.empty, l, true) else if (readText l size).2.1 = 0 then ((readText l size).1, (readText l size).2.2, false) else (ByteArray.empty, (readText l size).2.2, true)
theorem rtextS_fail (l : ByteArray) (size : Int) : rtextS l true size = (ByteArray.empty, l, true) := rfl
theorem rtextS_ok {l l' : ByteArray} {size : Int} {x : ByteArray} (h : readText l size = (x, 0, l')) : rtextS l false size = (x, l', false) := by simp [rtextS, h]
theorem rtextS_err {l l' : ByteArray} {size : Int} {x : ByteArray} {k : Int} (h : readText l size = (x, k, l')) (hk : k ≠ 0) : rtextS l false size = (ByteArray.empty, l', true) := by simp [rtextS, h, hk]

theorem readNum_less {s l : ByteArray} {size x k : Int} (h : readNum s size = (x, k, l)) : l.size ≤ s.size := by
  unfold readNum at h
  split at h
  · split at h
    · rw [← (Prod.mk.inj (Prod.mk.inj h).2).2]; exact Nat.le_refl _
    · rw [← (Prod.mk.inj (Prod.mk.inj h).2).2, ByteArray.size_extract]; omega
  · rw [← (Prod.mk.inj (Prod.mk.inj h).2).2]; exact Nat.le_refl _
theorem readText_less {s l x : ByteArray} {size k : Int} (h : readText s size = (x, k, l)) : l.size ≤ s.size ∧ x.size ≤ s.size := by
  obtain ⟨y, k1, l1, h1⟩ : ∃ p q r, readNum s size = (p, q, r) := ⟨_, _, _, rfl⟩
  have hl := readNum_less h1
  unfold readText at h
  simp only [h1] at h
  split at h
  · split at h
    · rw [← (Prod.mk.inj (Prod.mk.inj h).2).2, ← (Prod.mk.inj h).1]; exact ⟨Nat.le_refl _, Nat.zero_le _⟩
    · rw [← (Prod.mk.inj (Prod.mk.inj h).2).2, ← (Prod.mk.inj h).1, ByteArray.size_extract, ByteArray.size_extract]; omega
  · rw [← (Prod.mk.inj (Prod.mk.inj h).2).2, ← (Prod.mk.inj h).1]; exact ⟨Nat.le_refl _, Nat.zero_le _⟩
theorem rnumS_less {s l : ByteArray} {f f' : Bool} {size x : Int} (h : rnumS s f size = (x, l, f')) : l.size ≤ s.size := by
  obtain ⟨y, k1, l1, h1⟩ : ∃ p q r, readNum s size = (p, q, r) := ⟨_, _, _, rfl⟩
  have hl := readNum_less h1
  unfold rnumS at h
  split at h
  · rw [← (Prod.mk.inj (Prod.mk.inj h).2).1]; exact Nat.le_refl _
  · split at h <;> rw [← (Prod.mk.inj (Prod.mk.inj h).2).1, h1] <;> exact hl
theorem rtextS_less {s l x : ByteArray} {f f' : Bool} {size : Int} (h : rtextS s f size = (x, l, f')) : l.size ≤ s.size ∧ x.size ≤ s.size := by
  obtain ⟨y, k1, l1, h1⟩ : ∃ p q r, readText s size = (p, q, r) := ⟨_, _, _, rfl⟩
  have hl := readText_less h1
  unfold rtextS at h
  split at h
  · rw [← (Prod.mk.inj (Prod.mk.inj h).2).1, ← (Prod.mk.inj h).1]; exact ⟨Nat.le_refl _, Nat.zero_le _⟩
  · split at h
    · rw [← (Prod.mk.inj (Prod.mk.inj h).2).1, ← (Prod.mk.inj h).1, h1]; exact hl
    · rw [← (Prod.mk.inj (Prod.mk.inj h).2).1, ← (Prod.mk.inj h).1, h1]; exact ⟨hl.1, Nat.zero_le _⟩

set_option maxRecDepth 100000 in
set_option maxHeartbeats 2000000 in
theorem rText1_any (size : Int) (x : ByteArray) (k : Int) (B g h b1 b2 : Nat) (l l' : ByteArray) (f : Bool) (ext : Exts) (w : World) (hsz : l.size ≤ 140737488355328) (hp : GetSt w B g h l f ext) (hk : readText l size = (x, k, l'))
    (m1 : (b1, 94, [Value.pointer (some ⟨g, 0, none⟩)]) ∈ ext) (m2 : (b2, 3, [Value.int .i64 size]) ∈ ext) :
    Calls Try.prog 102 #[.pointer (some ⟨b1, 0, none⟩), .pointer (some ⟨b2, 0, none⟩)] w fun e w' => e = .returned (.tuple #[.string x, .int .i64 k]) ∧ GetSt w' B g h l' f ext ∧ Below B w w' := by
  have hd := hp.keep (below_drew1 w)
  have hW := hid (RText_any h l hsz size w.drew hd.2.1 x k l' hk)
  have c1 := (hd.held m1).cell 0
  have c2 := (hd.held m2).cell 0
  have c3 := hd.in_
  simp at c1 c2
  have hp' := hid hp
  have hd' := hid hd
  clear hp hd hk
  go_enter Try.func102, Try.ntmps102
  go_wp2_with fail
  refine wp_region_held_drew (S := fun W => W.cell? ⟨b1, 0, none⟩ = some (.pointer (some ⟨g, 0, none⟩)) ∧ W.cell? ⟨b2, 0, none⟩ = some (.int .i64 size) ∧ W.cell? ⟨g, 0, none⟩ = some (.pointer (some ⟨h, 0, none⟩))) (by kernel_rfl) (by exact ⟨c1, c2, c3⟩) (fun hHeld => ?_)
  refine wpAnyH_take (i := 0) (v := .pointer (some ⟨g, 0, none⟩)) rfl (by kernel_rfl) (by kernel_rfl) (by kernel_rfl) (fun _ _ _ h => h) (.inl ⟨by kernel_rfl, fun w hw => by have hw1 := hw.1; go_simp⟩) hHeld ?_
  simp only [ly1, ly2, ly3, Act.put, ly5, ly6, ly7]
  refine wpAnyH_take (i := 1) (v := .pointer (some ⟨g, 0, none⟩)) rfl (by kernel_rfl) (by kernel_rfl) (by kernel_rfl) (fun _ _ _ h => h) (.inl ⟨by kernel_rfl, fun w _ => by go_simp⟩) hHeld ?_
  simp only [ly1, ly2, ly3, Act.put, ly5, ly6, ly7]
  refine wpAnyH_take (i := 2) (v := .pointer (some ⟨g, 0, none⟩)) rfl (by kernel_rfl) (by kernel_rfl) (by kernel_rfl) (fun _ _ _ h => h) (.inl ⟨by kernel_rfl, fun w _ => by go_simp⟩) hHeld ?_
  simp only [ly1, ly2, ly3, Act.put, ly5, ly6, ly7]
  refine wpAnyH_take (i := 3) (v := .pointer (some ⟨h, 0, none⟩)) rfl (by kernel_rfl) (by kernel_rfl) (by kernel_rfl) (fun _ _ _ h => h) (.inl ⟨by kernel_rfl, fun w hw => by have hw1 := hw.2.2; go_simp⟩) hHeld ?_
  simp only [ly1, ly2, ly3, Act.put, ly5, ly6, ly7]
  refine wpAnyH_take (i := 4) (v := .int .i64 size) rfl (by kernel_rfl) (by kernel_rfl) (by kernel_rfl) (fun _ _ _ h => h) (.inl ⟨by kernel_rfl, fun w hw => by have hw1 := hw.2.1; go_simp⟩) hHeld ?_
  simp only [ly1, ly2, ly3, Act.put, ly5, ly6, ly7]
  refine wpAnyH_ready (rs := [5]) (by kernel_rfl) (by simp) (AllReadyH.cons rfl (fun K hK => ?_) AllReadyH.nil)
  have hK' := hid hK
  clear hK
  rw [if_pos (by kernel_rfl)]
  simp only [ly1, ly2, ly3]
  go_simp
  refine hW.out.mono ?_
  rintro e w1 ⟨rfl, h1, h2⟩
  obtain ⟨hend, hB1⟩ := hd'.out.read h1 h2
  have d1 := (hend.held m1).cell 0
  have d2 := (hend.held m2).cell 0
  have d3 := hend.in_
  simp at d1 d2
  have hfin := hid (show GetSt w1 B g h l' f ext ∧ Below B w w1 from ⟨hend, (((Below.refl _ _).drew).trans hB1)⟩)
  clear h1 h2 hend hB1
  refine hK'.out _ _ (by exact ⟨d1, d2, d3⟩) (fun hHeld => ?_)
  clear hK' K
  refine wpAnyH_take (i := 6) (v := .string x) rfl (by kernel_rfl) (by kernel_rfl) (by kernel_rfl) (fun _ _ _ h => h) (.inl ⟨by kernel_rfl, fun w _ => by go_simp⟩) hHeld ?_
  simp only [ly1, ly2, ly3, Act.put, ly5, ly6, ly7]
  refine wpAnyH_take (i := 7) (v := .int .i64 k) rfl (by kernel_rfl) (by kernel_rfl) (by kernel_rfl) (fun _ _ _ h => h) (.inl ⟨by kernel_rfl, fun w _ => by go_simp⟩) hHeld ?_
  simp only [ly1, ly2, ly3, Act.put, ly5, ly6, ly7]
  refine wpAnyH_take (i := 8) (v := .string x) rfl (by kernel_rfl) (by kernel_rfl) (by kernel_rfl) (fun _ _ _ h => h) (yieldsIf_assign _ rfl rfl rfl) hHeld ?_
  simp only [ly1, ly2, ly3, Act.put, ly5, ly6, ly7]
  refine wpAnyH_take (i := 9) (v := .int .i64 k) rfl (by kernel_rfl) (by kernel_rfl) (by kernel_rfl) (fun _ _ _ h => h) (yieldsIf_assign _ rfl rfl rfl) hHeld ?_
  simp only [ly1, ly2, ly3, Act.put, ly5, ly6, ly7]
  refine wpAnyH_done (by kernel_rfl) ?_ _
  go_wp2_with fail
  go_ret2
  exact ⟨rfl, hfin.out⟩

set_option maxRecDepth 100000 in
set_option maxHeartbeats 1000000 in
theorem keepText_any (size : Int) (x : ByteArray) (f' : Bool) (B g h b1 b2 : Nat) (l l' : ByteArray) (f : Bool) (ext : Exts) (w : World) (hsz : l.size ≤ 140737488355328) (hp : GetSt w B g h l f ext) (hk : rtextS l f size = (x, l', f'))
    (m1 : (b1, 94, [Value.pointer (some ⟨g, 0, none⟩)]) ∈ ext) (m2 : (b2, 3, [Value.int .i64 size]) ∈ ext) :
    Calls Try.prog 101 #[.pointer (some ⟨g, 0, none⟩), .func (.func 102) #[] #[.pointer (some ⟨b1, 0, none⟩), .pointer (some ⟨b2, 0, none⟩)]] w fun e w' => e = .returned (.string x) ∧ GetSt w' B g h l' f' ext ∧ Below B w w' := by
  have hf := hp.failed
  cases f with
  | true =>
    rw [rtextS_fail] at hk
    obtain ⟨rfl, hk'⟩ := Prod.mk.inj hk
    obtain ⟨rfl, rfl⟩ := Prod.mk.inj hk'
    have hp' := hid hp
    clear hp hk hk'
    go_enter Try.func101, Try.ntmps101
    go_wp2_with fail
    go_ret
    exact ⟨rfl, hp'.out, Below.refl _ _⟩
  | false =>
    obtain ⟨y, k, l2, hr⟩ : ∃ y k l2, readText l size = (y, k, l2) := ⟨_, _, _, rfl⟩
    have hN := hid (rText1_any size y k B g h b1 b2 l l2 false ext w hsz hp hr m1 m2)
    by_cases hk0 : k = 0
    · subst hk0
      rw [rtextS_ok hr] at hk
      obtain ⟨rfl, hk'⟩ := Prod.mk.inj hk
      obtain ⟨rfl, rfl⟩ := Prod.mk.inj hk'
      clear hp hk hk' hr
      go_enter Try.func101, Try.ntmps101
      go_wp2_with fail
      refine hN.out.mono ?_
      rintro e w1 ⟨rfl, h1, h2⟩
      have h1' := hid h1
      have h2' := hid h2
      clear h1 h2
      go_wp2_with fail
      go_ret
      exact ⟨rfl, h1'.out, h2'.out⟩
    · rw [rtextS_err hr hk0] at hk
      obtain ⟨rfl, hk'⟩ := Prod.mk.inj hk
      obtain ⟨rfl, rfl⟩ := Prod.mk.inj hk'
      have hk0' : (k != 0) = true := by simpa using hk0
      clear hp hk hk' hr
      go_enter Try.func101, Try.ntmps101
      go_wp2_with fail
      refine hN.out.mono ?_
      rintro e w1 ⟨rfl, h1, h2⟩
      have hc := h1.failed
      have hz := h1.1.frozen 1
      obtain ⟨h3, h4⟩ := h1.fail
      have h3' := hid h3
      have h4' := hid (h2.trans h4)
      clear h1 h2 h3 h4 hf
      go_wp2_with fail
      go_ret
      exact ⟨rfl, h3'.out, h4'.out⟩

set_option maxRecDepth 100000 in
set_option maxHeartbeats 1000000 in
theorem cTextR_any (size : Int) (x : ByteArray) (f' : Bool) (B g h : Nat) (l l' : ByteArray) (f : Bool) (ext : Exts) (w : World) (hsz : l.size ≤ 140737488355328) (hp : GetSt w B g h l f ext) (hk : rtextS l f size = (x, l', f')) :
    Calls Try.prog 64 #[.pointer (some ⟨g, 0, none⟩), .int .i64 size] w fun e w' => e = .returned (.string x) ∧ GetSt w' B g h l' f' ext ∧ Below B w w' := by
  have h1 := hp.with #[.pointer (some ⟨g, 0, none⟩)] 94
  have h2 := h1.with #[.int .i64 size] 3
  have hsz2 : (w.alloc (.cells #[.pointer (some ⟨g, 0, none⟩)] 94)).heap.size = w.heap.size + 1 := by simp
  rw [hsz2] at h2
  have hb : Below B w ((w.alloc (.cells #[.pointer (some ⟨g, 0, none⟩)] 94)).alloc (.cells #[.int .i64 size] 3)) := ((Below.refl _ _).alloc hp.size _).alloc h1.size _
  have hK := hid (keepText_any size x f' B g h w.heap.size (w.heap.size + 1) l l' f _ _ hsz h2 hk (by simp) (by simp))
  have hb' := hid hb
  clear hp h1 h2 hsz2 hb hk
  go_enter Try.func64, Try.ntmps64
  go_wp2_with fail
  refine hK.out.mono ?_
  rintro e w1 ⟨rfl, h1, h2⟩
  have h1' := hid h1.tail.tail
  have h2' := hid (hb'.out.trans h2)
  clear h1 h2
  go_wp2_with fail
  go_ret
  exact ⟨rfl, h1'.out, h2'.out⟩

end Go.Proofs.Ytapegklffglnoaa
