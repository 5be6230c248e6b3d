/- The codec's Reader. -/
import Derived.Test.YtapegklffglnoaaCodH
import Derived.Test.YtapegklffglnoaaWireH2
import Derived.IntWalk
namespace Go.Proofs.Ytapegklffglnoaa
open Go.RowKit
open Go.Lib (strCells strCells_length strCells_oneCell)

/-- A Reader (block g) over a wire's Reader (block h), before whom l is left, of a call that began when B blocks lay there; has it failed? -/
def GetSt (w : World) (B g h : Nat) (l : ByteArray) (f : Bool) (ext : Exts) : Prop :=
  Holds w g 138 [.pointer (some ⟨h, 0, none⟩), .bool f] ∧ Rd w h l ∧ g ≠ h ∧ (∀ x ∈ ext, Holds w x.1 x.2.1 x.2.2 ∧ x.1 ≠ g ∧ x.1 ≠ h) ∧ B ≤ g ∧ B ≤ h ∧ B ≤ w.heap.size

section
variable {w w' : World} {B g h : Nat} {l l' : ByteArray} {f : Bool} {ext : Exts}

theorem GetSt.keep (hp : GetSt w B g h l f ext) (hb : Below w.heap.size w w') : GetSt w' B g h l f ext :=
  ⟨hp.1.below hb hp.1.lt, Holds.below hp.2.1 hb (Holds.lt hp.2.1), hp.2.2.1, fun x hx => ⟨(hp.2.2.2.1 x hx).1.below hb (hp.2.2.2.1 x hx).1.lt, (hp.2.2.2.1 x hx).2⟩, hp.2.2.2.2.1, hp.2.2.2.2.2.1, Nat.le_trans hp.2.2.2.2.2.2 hb.size⟩

theorem GetSt.with (hp : GetSt w B g h l f ext) (cs : Array Value) (t : TypeId) : GetSt (w.alloc (.cells cs t)) B g h l f ((w.heap.size, t, cs.toList) :: ext) := by
  have hb : Below w.heap.size w (w.alloc (.cells cs t)) := (Below.refl _ _).alloc (Nat.le_refl _) _
  obtain ⟨h1, h2, h3, h4, h5, h6, h7⟩ := hp.keep hb
  have l1 := hp.1.lt
  have l2 := Holds.lt hp.2.1
  refine ⟨h1, h2, h3, fun x hx => ?_, h5, h6, h7⟩
  rcases List.mem_cons.1 hx with rfl | hx
  · exact ⟨Holds.new w t cs, by show w.heap.size ≠ g; omega, by show w.heap.size ≠ h; omega⟩
  · exact h4 x hx

theorem GetSt.sub {ext' : Exts} (hp : GetSt w B g h l f ext) (hs : ∀ x ∈ ext', x ∈ ext) : GetSt w B g h l f ext' := ⟨hp.1, hp.2.1, hp.2.2.1, fun x hx => hp.2.2.2.1 x (hs x hx), hp.2.2.2.2⟩
theorem GetSt.tail {x : Nat × TypeId × List Value} (hp : GetSt w B g h l f (x :: ext)) : GetSt w B g h l f ext := hp.sub fun _ hy => List.mem_cons_of_mem _ hy
theorem GetSt.size (hp : GetSt w B g h l f ext) : B ≤ w.heap.size := hp.2.2.2.2.2.2
theorem GetSt.held (hp : GetSt w B g h l f ext) {q : Nat} {t : TypeId} {cs : List Value} (hx : (q, t, cs) ∈ ext) : Holds w q t cs := (hp.2.2.2.1 _ hx).1
theorem GetSt.in_ (hp : GetSt w B g h l f ext) : w.cell? ⟨g, 0, none⟩ = some (.pointer (some ⟨h, 0, none⟩)) := by
  have := hp.1.cell 0
  simpa using this
theorem GetSt.failed (hp : GetSt w B g h l f ext) : w.cell? ⟨g, 1, none⟩ = some (.bool f) := by
  have := hp.1.cell 1
  simpa using this

/-- Behind a call that reads. -/
theorem GetSt.read (hp : GetSt w B g h l f ext) (h1 : Rd w' h l') (h2 : w.grownBy w' (some h)) : GetSt w' B g h l' f ext ∧ Below B w w' := by
  obtain ⟨k1, k2, k3, k4, k5, k6, k7⟩ := hp
  exact ⟨⟨k1.grown h2 (fun e => k3 (Option.some.inj e)), h1, k3, fun x hx => ⟨(k4 x hx).1.grown h2 (fun e => (k4 x hx).2.2 (Option.some.inj e)), (k4 x hx).2⟩, k5, k6, Nat.le_trans k7 h2.size⟩,
    below_of_only (Below.refl _ _) h2 k6 k7⟩

/-- It fails. -/
theorem GetSt.fail (hp : GetSt w B g h l f ext) : GetSt (w.setCell ⟨g, 1, none⟩ (.bool true)) B g h l true ext ∧ Below B w (w.setCell ⟨g, 1, none⟩ (.bool true)) := by
  obtain ⟨k1, k2, k3, k4, k5, k6, k7⟩ := hp
  have hs := k1.set 1 (.bool true)
  exact ⟨⟨hs, Holds.far k2 _ k3.symm _, k3, fun x hx => ⟨(k4 x hx).1.far _ (k4 x hx).2.1 _, (k4 x hx).2⟩, k5, k6, by simpa [World.setCell] using k7⟩, (Below.refl _ _).setCell (p := ⟨g, 1, none⟩) k5 _⟩
end

/-- A number read: what it is, what is left, has it failed? -/
def rnumS (l : ByteArray) (f : Bool) (size : Int) : Int × ByteArray × Bool :=
  if f then (0, l, true) else if (readNum l size).2.1 = 0 then ((readNum l size).1, (readNum l size).2.2, false) else (0, (readNum l size).2.2, true)

set_option maxRecDepth 100000 in
set_option maxHeartbeats 2000000 in
theorem rNum1_any (size x k : Int) (B g h b1 b2 : Nat) (l l' : ByteArray) (f : Bool) (ext : Exts) (w : World) (hp : GetSt w B g h l f ext) (hk : readNum l size = (x, k, l'))
    (m1 : (b1, 94, [Value.pointer (some ⟨g, 0, none⟩)]) ∈ ext) (m2 : (b2, 3, [Value.int .i64 size]) ∈ ext) :
    Calls Try.prog 105 #[.pointer (some ⟨b1, 0, none⟩), .pointer (some ⟨b2, 0, none⟩)] w fun e w' => e = .returned (.tuple #[.int .i64 x, .int .i64 k]) ∧ GetSt w' B g h l' f ext ∧ Below B w w' := by
  have hd := hp.keep (below_drew1 w)
  have hW := hid (RNum_any h l size w.drew hd.2.1 x k l' hk)
  have c1 := (hd.held m1).cell 0
  have c2 := (hd.held m2).cell 0
  have c3 := hd.in_
  simp at c1 c2
  have hp' := hid hp
  have hd' := hid hd
  clear hp hd hk
  go_enter Try.func105, Try.ntmps105
  go_wp2_with fail
  refine wp_region_held_drew (S := fun W => W.cell? ⟨b1, 0, none⟩ = some (.pointer (some ⟨g, 0, none⟩)) ∧ W.cell? ⟨b2, 0, none⟩ = some (.int .i64 size) ∧ W.cell? ⟨g, 0, none⟩ = some (.pointer (some ⟨h, 0, none⟩))) (by kernel_rfl) (by exact ⟨c1, c2, c3⟩) (fun hHeld => ?_)
  refine wpAnyH_take (i := 0) (v := .pointer (some ⟨g, 0, none⟩)) rfl (by kernel_rfl) (by kernel_rfl) (by kernel_rfl) (fun _ _ _ h => h) (.inl ⟨by kernel_rfl, fun w hw => by have hw1 := hw.1; go_simp⟩) hHeld ?_
  simp only [ly1, ly2, ly3, Act.put, ly5, ly6, ly7]
  refine wpAnyH_take (i := 1) (v := .pointer (some ⟨g, 0, none⟩)) rfl (by kernel_rfl) (by kernel_rfl) (by kernel_rfl) (fun _ _ _ h => h) (.inl ⟨by kernel_rfl, fun w _ => by go_simp⟩) hHeld ?_
  simp only [ly1, ly2, ly3, Act.put, ly5, ly6, ly7]
  refine wpAnyH_take (i := 2) (v := .pointer (some ⟨g, 0, none⟩)) rfl (by kernel_rfl) (by kernel_rfl) (by kernel_rfl) (fun _ _ _ h => h) (.inl ⟨by kernel_rfl, fun w _ => by go_simp⟩) hHeld ?_
  simp only [ly1, ly2, ly3, Act.put, ly5, ly6, ly7]
  refine wpAnyH_take (i := 3) (v := .pointer (some ⟨h, 0, none⟩)) rfl (by kernel_rfl) (by kernel_rfl) (by kernel_rfl) (fun _ _ _ h => h) (.inl ⟨by kernel_rfl, fun w hw => by have hw1 := hw.2.2; go_simp⟩) hHeld ?_
  simp only [ly1, ly2, ly3, Act.put, ly5, ly6, ly7]
  refine wpAnyH_take (i := 4) (v := .int .i64 size) rfl (by kernel_rfl) (by kernel_rfl) (by kernel_rfl) (fun _ _ _ h => h) (.inl ⟨by kernel_rfl, fun w hw => by have hw1 := hw.2.1; go_simp⟩) hHeld ?_
  simp only [ly1, ly2, ly3, Act.put, ly5, ly6, ly7]
  refine wpAnyH_ready (rs := [5]) (by kernel_rfl) (by simp) (AllReadyH.cons rfl (fun K hK => ?_) AllReadyH.nil)
  have hK' := hid hK
  clear hK
  rw [if_pos (by kernel_rfl)]
  simp only [ly1, ly2, ly3]
  go_simp
  refine hW.out.mono ?_
  rintro e w1 ⟨rfl, h1, h2⟩
  obtain ⟨hend, hB1⟩ := hd'.out.read h1 h2
  have d1 := (hend.held m1).cell 0
  have d2 := (hend.held m2).cell 0
  have d3 := hend.in_
  simp at d1 d2
  have hfin := hid (show GetSt w1 B g h l' f ext ∧ Below B w w1 from ⟨hend, (((Below.refl _ _).drew).trans hB1)⟩)
  clear h1 h2 hend hB1
  refine hK'.out _ _ (by exact ⟨d1, d2, d3⟩) (fun hHeld => ?_)
  clear hK' K
  refine wpAnyH_take (i := 6) (v := .int .i64 x) rfl (by kernel_rfl) (by kernel_rfl) (by kernel_rfl) (fun _ _ _ h => h) (.inl ⟨by kernel_rfl, fun w _ => by go_simp⟩) hHeld ?_
  simp only [ly1, ly2, ly3, Act.put, ly5, ly6, ly7]
  refine wpAnyH_take (i := 7) (v := .int .i64 k) rfl (by kernel_rfl) (by kernel_rfl) (by kernel_rfl) (fun _ _ _ h => h) (.inl ⟨by kernel_rfl, fun w _ => by go_simp⟩) hHeld ?_
  simp only [ly1, ly2, ly3, Act.put, ly5, ly6, ly7]
  refine wpAnyH_take (i := 8) (v := .int .i64 x) rfl (by kernel_rfl) (by kernel_rfl) (by kernel_rfl) (fun _ _ _ h => h) (yieldsIf_assign _ rfl rfl rfl) hHeld ?_
  simp only [ly1, ly2, ly3, Act.put, ly5, ly6, ly7]
  refine wpAnyH_take (i := 9) (v := .int .i64 k) rfl (by kernel_rfl) (by kernel_rfl) (by kernel_rfl) (fun _ _ _ h => h) (yieldsIf_assign _ rfl rfl rfl) hHeld ?_
  simp only [ly1, ly2, ly3, Act.put, ly5, ly6, ly7]
  refine wpAnyH_done (by kernel_rfl) ?_ _
  go_wp2_with fail
  go_ret2
  exact ⟨rfl, hfin.out⟩

theorem rnumS_fail (l : ByteArray) (size : Int) : rnumS l true size = (0, l, true) := rfl
theorem rnumS_ok {l l' : ByteArray} {size x : Int} (h : readNum l size = (x, 0, l')) : rnumS l false size = (x, l', false) := by simp [rnumS, h]
theorem rnumS_err {l l' : ByteArray} {size x k : Int} (h : readNum l size = (x, k, l')) (hk : k ≠ 0) : rnumS l false size = (0, l', true) := by simp [rnumS, h, hk]

set_option maxRecDepth 100000 in
set_option maxHeartbeats 1000000 in
theorem keepInt_any (size x : Int) (f' : Bool) (B g h b1 b2 : Nat) (l l' : ByteArray) (f : Bool) (ext : Exts) (w : World) (hp : GetSt w B g h l f ext) (hk : rnumS l f size = (x, l', f'))
    (m1 : (b1, 94, [Value.pointer (some ⟨g, 0, none⟩)]) ∈ ext) (m2 : (b2, 3, [Value.int .i64 size]) ∈ ext) :
    Calls Try.prog 104 #[.pointer (some ⟨g, 0, none⟩), .func (.func 105) #[] #[.pointer (some ⟨b1, 0, none⟩), .pointer (some ⟨b2, 0, none⟩)]] w fun e w' => e = .returned (.int .i64 x) ∧ GetSt w' B g h l' f' ext ∧ Below B w w' := by
  have hf := hp.failed
  cases f with
  | true =>
    rw [rnumS_fail] at hk
    obtain ⟨rfl, hk'⟩ := Prod.mk.inj hk
    obtain ⟨rfl, rfl⟩ := Prod.mk.inj hk'
    have hp' := hid hp
    clear hp hk hk'
    go_enter Try.func104, Try.ntmps104
    go_wp2_with fail
    go_ret
    exact ⟨rfl, hp'.out, Below.refl _ _⟩
  | false =>
    obtain ⟨y, k, l2, hr⟩ : ∃ y k l2, readNum l size = (y, k, l2) := ⟨_, _, _, rfl⟩
    have hN := hid (rNum1_any size y k B g h b1 b2 l l2 false ext w hp hr m1 m2)
    by_cases hk0 : k = 0
    · subst hk0
      rw [rnumS_ok hr] at hk
      obtain ⟨rfl, hk'⟩ := Prod.mk.inj hk
      obtain ⟨rfl, rfl⟩ := Prod.mk.inj hk'
      clear hp hk hk' hr
      go_enter Try.func104, Try.ntmps104
      go_wp2_with fail
      refine hN.out.mono ?_
      rintro e w1 ⟨rfl, h1, h2⟩
      have h1' := hid h1
      have h2' := hid h2
      clear h1 h2
      go_wp2_with fail
      go_ret
      exact ⟨rfl, h1'.out, h2'.out⟩
    · rw [rnumS_err hr hk0] at hk
      obtain ⟨rfl, hk'⟩ := Prod.mk.inj hk
      obtain ⟨rfl, rfl⟩ := Prod.mk.inj hk'
      have hk0' : (k != 0) = true := by simpa using hk0
      clear hp hk hk' hr
      go_enter Try.func104, Try.ntmps104
      go_wp2_with fail
      refine hN.out.mono ?_
      rintro e w1 ⟨rfl, h1, h2⟩
      have hc := h1.failed
      have hz := h1.1.frozen 1
      obtain ⟨h3, h4⟩ := h1.fail
      have h3' := hid h3
      have h4' := hid (h2.trans h4)
      clear h1 h2 h3 h4 hf
      go_wp2_with fail
      go_ret
      exact ⟨rfl, h3'.out, h4'.out⟩

set_option maxRecDepth 100000 in
set_option maxHeartbeats 1000000 in
theorem cNumR_any (size x : Int) (f' : Bool) (B g h : Nat) (l l' : ByteArray) (f : Bool) (ext : Exts) (w : World) (hp : GetSt w B g h l f ext) (hk : rnumS l f size = (x, l', f')) :
    Calls Try.prog 65 #[.pointer (some ⟨g, 0, none⟩), .int .i64 size] w fun e w' => e = .returned (.int .i64 x) ∧ GetSt w' B g h l' f' ext ∧ Below B w w' := by
  have h1 := hp.with #[.pointer (some ⟨g, 0, none⟩)] 94
  have h2 := h1.with #[.int .i64 size] 3
  have hsz : (w.alloc (.cells #[.pointer (some ⟨g, 0, none⟩)] 94)).heap.size = w.heap.size + 1 := by simp
  rw [hsz] at h2
  have hb : Below B w ((w.alloc (.cells #[.pointer (some ⟨g, 0, none⟩)] 94)).alloc (.cells #[.int .i64 size] 3)) := ((Below.refl _ _).alloc hp.size _).alloc h1.size _
  have hK := hid (keepInt_any size x f' B g h w.heap.size (w.heap.size + 1) l l' f _ _ h2 hk (by simp) (by simp))
  have hb' := hid hb
  clear hp h1 h2 hsz hb hk
  go_enter Try.func65, Try.ntmps65
  go_wp2_with fail
  refine hK.out.mono ?_
  rintro e w1 ⟨rfl, h1, h2⟩
  have h1' := hid h1.tail.tail
  have h2' := hid (hb'.out.trans h2)
  clear h1 h2
  go_wp2_with fail
  go_ret
  exact ⟨rfl, h1'.out, h2'.out⟩

/-- A byte that must be there. -/
def rmarkS (c : UInt8) (l : ByteArray) (f : Bool) : ByteArray × Bool := ((rnumS l f 1).2.1, (rnumS l f 1).2.2 || decide ((rnumS l f 1).1 ≠ (c.toNat : Int)))

set_option maxRecDepth 100000 in
set_option maxHeartbeats 1000000 in
theorem cMarkR_any (c : UInt8) (B g h : Nat) (l l' : ByteArray) (f f' : Bool) (ext : Exts) (w : World) (hp : GetSt w B g h l f ext) (hk : rmarkS c l f = (l', f')) :
    Calls Try.prog 61 #[.pointer (some ⟨g, 0, none⟩), .string ⟨#[c]⟩] w fun e w' => e = .returned (.tuple #[]) ∧ GetSt w' B g h l' f' ext ∧ Below B w w' := by
  obtain ⟨x, l2, f2, hr⟩ : ∃ x l2 f2, rnumS l f 1 = (x, l2, f2) := ⟨_, _, _, rfl⟩
  have hN := hid (fun W (hW : GetSt W B g h l f ext) => cNumR_any 1 x f2 B g h l l2 f ext W hW hr)
  have hp1 := hid (hp.keep (below_drew1 w))
  unfold rmarkS at hk
  rw [hr] at hk
  obtain ⟨rfl, hk2⟩ := Prod.mk.inj hk
  have hk3 := hid hk2
  have hb0 : (⟨#[c]⟩ : ByteArray)[0]'(by show 0 < 1; decide) = c := rfl
  have hc8 : (c.toNat : Int) < 256 := by have := c.toNat_lt; omega
  clear hp hk hk2 hr
  go_enter Try.func61, Try.ntmps61
  go_wp2_with fail
  refine wp_loop_rounds 2 ?_
  rw [rounds_succ]
  go_wp2_with fail
  have hidx : (⟨#[c]⟩ : ByteArray).size = 1 := rfl
  have hw8 := IntWalk.i64_in (c.toNat : Int) (by omega)
  refine wp_region_held_drew (S := fun _ => True) (by kernel_rfl) (by exact trivial) (fun hHeld => ?_)
  refine wpAnyH_take (i := 0) (v := .pointer (some ⟨g, 0, none⟩)) rfl (by kernel_rfl) (by kernel_rfl) (by kernel_rfl) (fun _ _ _ h => h) (yieldsIf_move _ rfl rfl rfl) hHeld ?_
  simp only [ly1, ly2, ly3, Act.put, ly5, ly6, ly7]
  refine wpAnyH_take (i := 2) (v := .string ⟨#[c]⟩) rfl (by kernel_rfl) (by kernel_rfl) (by kernel_rfl) (fun _ _ _ h => h) (yieldsIf_move _ rfl rfl rfl) hHeld ?_
  simp only [ly1, ly2, ly3, Act.put, ly5, ly6, ly7]
  refine wpAnyH_take (i := 3) (v := .int .i64 0) rfl (by kernel_rfl) (by kernel_rfl) (by kernel_rfl) (fun _ _ _ h => h) (yieldsIf_move _ rfl rfl rfl) hHeld ?_
  simp only [ly1, ly2, ly3, Act.put, ly5, ly6, ly7]
  refine wpAnyH_take (i := 4) (v := .int .u8 (c.toNat : Int)) rfl (by kernel_rfl) (by kernel_rfl) (by kernel_rfl) (fun _ _ _ h => h) (.inl ⟨by kernel_rfl, fun w hw => by go_simp⟩) hHeld ?_
  simp only [ly1, ly2, ly3, Act.put, ly5, ly6, ly7]
  refine wpAnyH_take (i := 5) (v := .int .i64 (c.toNat : Int)) rfl (by kernel_rfl) (by kernel_rfl) (by kernel_rfl) (fun _ _ _ h => h) (.inl ⟨by kernel_rfl, fun w hw => by go_simp⟩) hHeld ?_
  simp only [ly1, ly2, ly3, Act.put, ly5, ly6, ly7]
  refine wpAnyH_ready (rs := [1]) (by kernel_rfl) (by simp) (AllReadyH.cons rfl (fun K hK => ?_) AllReadyH.nil)
  have hK' := hid hK
  clear hK
  rw [if_pos (by kernel_rfl)]
  simp only [ly1, ly2, ly3]
  go_simp
  refine (hN.out _ hp1.out).mono ?_
  rintro e w1 ⟨rfl, h1, h2⟩
  have h2' := hid (((Below.refl B w).drew).trans h2)
  refine hK'.out _ _ (by exact trivial) (fun hHeld => ?_)
  clear hK' K
  by_cases hx : x = (c.toNat : Int)
  · have hb : (x != (c.toNat : Int)) = false := by simp [hx]
    have hf' : f2 = f' := by have h := hk3.out; rw [decide_eq_false (fun h => h hx), Bool.or_false] at h; exact h
    have h1' := hid (hf' ▸ h1)
    clear h1 h2 hx
    refine wpAnyH_take (i := 6) (v := .bool false) rfl (by kernel_rfl) (by kernel_rfl) (by kernel_rfl) (fun _ _ _ h => h) (.inl ⟨by kernel_rfl, fun w _ => by go_simp⟩) hHeld ?_
    simp only [ly1, ly2, ly3, Act.put, ly5, ly6, ly7]
    refine wpAnyH_done (by kernel_rfl) ?_ _
    go_wp2_with fail
    rw [rounds_succ]
    go_wp2_with fail
    go_end0
    exact ⟨rfl, h1'.out, h2'.out⟩
  · have hb : (x != (c.toNat : Int)) = true := by simpa using hx
    have hf' : f' = true := by have h := hk3.out; rw [decide_eq_true hx, Bool.or_true] at h; exact h.symm
    have hc := h1.failed
    have hz := h1.1.frozen 1
    obtain ⟨h3, h4⟩ := h1.fail
    have h3' := hid (show GetSt (w1.setCell ⟨g, 1, none⟩ (.bool true)) B g h l2 f' ext from hf' ▸ h3)
    have h4' := hid (h2'.out.trans h4)
    clear h1 h2 h3 h4 hx hf'
    refine wpAnyH_take (i := 6) (v := .bool true) rfl (by kernel_rfl) (by kernel_rfl) (by kernel_rfl) (fun _ _ _ h => h) (.inl ⟨by kernel_rfl, fun w _ => by go_simp⟩) hHeld ?_
    simp only [ly1, ly2, ly3, Act.put, ly5, ly6, ly7]
    refine wpAnyH_done (by kernel_rfl) ?_ _
    go_wp2_with fail
    rw [rounds_succ]
    go_wp2_with fail
    go_end0
    exact ⟨rfl, h3'.out, h4'.out⟩

set_option maxRecDepth 100000 in
set_option maxHeartbeats 400000 in
theorem cDone_any (B g h : Nat) (l : ByteArray) (f : Bool) (ext : Exts) (w : World) (hp : GetSt w B g h l f ext) :
    Calls Try.prog 66 #[.pointer (some ⟨g, 0, none⟩)] w fun e w' => e = .returned (.bool (!f && decide (l.size = 0))) ∧ w = w' := by
  have hf := hp.failed
  have hi := hp.in_
  have hL := hid (RLeft_any h l w hp.2.1)
  clear hp
  cases f with
  | true =>
    go_enter Try.func66, Try.ntmps66
    go_wp2_with fail
    go_ret
    exact ⟨rfl, rfl⟩
  | false =>
    by_cases hl : l.size = 0
    · have e1 : ((l.size : Int) == 0) = true := beq_iff_eq.2 (by omega)
      rw [decide_eq_true hl]
      have hl' := hid hl
      clear hl
      go_enter Try.func66, Try.ntmps66
      go_wp2_with (go_at_call 107; refine hL.out.mono ?_; rintro e w' ⟨rfl, rfl⟩)
      go_ret
      exact ⟨rfl, rfl⟩
    · have e1 : ((l.size : Int) == 0) = false := beq_eq_false_iff_ne.2 (by omega)
      rw [decide_eq_false hl]
      have hl' := hid hl
      clear hl
      go_enter Try.func66, Try.ntmps66
      go_wp2_with (go_at_call 107; refine hL.out.mono ?_; rintro e w' ⟨rfl, rfl⟩)
      go_ret
      exact ⟨rfl, rfl⟩

set_option maxRecDepth 100000 in
theorem codecOpen_any (s : ByteArray) (w : World) : Calls Try.prog 60 #[.string s] w fun e w' => e = .returned (.pointer (some ⟨w.heap.size + 1, 0, none⟩)) ∧
    w' = (w.alloc (.cells #[.string s] 158)).alloc (.cells #[.pointer (some ⟨w.heap.size, 0, none⟩), .bool false] 138) := by
  go_enter Try.func60, Try.ntmps60
  go_wp2_with (go_at_call 100; refine (wireOpen_any _ _).mono ?_; rintro e w' ⟨rfl, rfl⟩)
  go_ret
  exact ⟨by simp, rfl⟩

/-- The Reader that Open gives, in a variable. -/
theorem GetSt.fresh (w : World) (s : ByteArray) : GetSt (((w.alloc (.cells #[.string s] 158)).alloc (.cells #[.pointer (some ⟨w.heap.size, 0, none⟩), .bool false] 138)).alloc (.cells #[.pointer (some ⟨w.heap.size + 1, 0, none⟩)] 94))
    w.heap.size (w.heap.size + 1) w.heap.size s false [(w.heap.size + 1 + 1, 94, [.pointer (some ⟨w.heap.size + 1, 0, none⟩)])] := by
  have h0 : GetSt ((w.alloc (.cells #[.string s] 158)).alloc (.cells #[.pointer (some ⟨w.heap.size, 0, none⟩), .bool false] 138)) w.heap.size (w.heap.size + 1) w.heap.size s false [] := by
    refine ⟨heap_at _ _ _ (by simp), ?_, by omega, fun x hx => (by cases hx), by omega, Nat.le_refl _, by simp; omega⟩
    exact Holds.alloc (Rd.fresh w s) _
  have h1 := h0.with #[.pointer (some ⟨w.heap.size + 1, 0, none⟩)] 94
  have e : ((w.alloc (.cells #[.string s] 158)).alloc (.cells #[.pointer (some ⟨w.heap.size, 0, none⟩), .bool false] 138)).heap.size = w.heap.size + 1 + 1 := by simp
  rw [e] at h1
  exact h1

end Go.Proofs.Ytapegklffglnoaa
