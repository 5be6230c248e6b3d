/- Layer 13: entries read; Get. -/
import Derived.Test.YtapegklffglnoaaDirBa
import Derived.Test.YtapegklffglnoaaCodT
import Derived.Test.YtapegklffglnoaaItAll
namespace Go.Proofs.Ytapegklffglnoaa
open Go.RowKit

/-- An entry read: what it is, what is left, has it failed? -/
def rentS (l : ByteArray) (f : Bool) : Ent × ByteArray × Bool :=
  let a := rtextS l f 1
  let b := rnumS a.2.1 a.2.2 1
  let c := rnumS b.2.1 b.2.2 1
  (⟨a.1, b.1, c.1⟩, c.2.1, c.2.2)
theorem rentS_less {l l' : ByteArray} {f f' : Bool} {x : Ent} (h : rentS l f = (x, l', f')) : l'.size ≤ l.size := by
  obtain ⟨a1, l1, f1, e1⟩ : ∃ a1 l1 f1, rtextS l f 1 = (a1, l1, f1) := ⟨_, _, _, rfl⟩
  obtain ⟨a2, l2, f2, e2⟩ : ∃ p q r, rnumS l1 f1 1 = (p, q, r) := ⟨_, _, _, rfl⟩
  obtain ⟨a3, l3, f3, e3⟩ : ∃ p q r, rnumS l2 f2 1 = (p, q, r) := ⟨_, _, _, rfl⟩
  have h1 := (rtextS_less e1).1
  have h2 := rnumS_less e2
  have h3 := rnumS_less e3
  unfold rentS at h
  simp only [e1, e2, e3] at h
  rw [← (Prod.mk.inj (Prod.mk.inj h).2).1]
  omega

/-- What is held, the cells of an entry's variable written whole. -/
theorem GetSt.putEnt {w : World} {B g h : Nat} {l : ByteArray} {f : Bool} {ext : Exts} {q : Nat} (x : Ent) (hp : GetSt w B g h l f ((q, 60, z3.toList) :: ext)) (hn : ExtLt q g h ext) (hB : B ≤ q) :
    ∃ V, w.setCells q 0 x.cells = V ∧ V.heap[q]? = some (.cells x.cells.toArray 60 (0, 0)) ∧ GetSt V B g h l f ext ∧ Below B w V ∧ w.there q 0 x.cells.toArray.size := by
  have hh := hp.held (List.mem_cons_self ..)
  have hl : z3.toList.length = 3 := by decide
  refine ⟨_, rfl, ?_, GetSt.far hp.tail hn (Nat.le_refl _) _, below_setCells (Below.refl _ _) _ _ _ hB, hh.there 0 _ (by rw [List.size_toArray, Ent.len, hl]; decide)⟩
  have h1 := hh.put 0 x.cells (by rw [Ent.len, hl]; decide)
  rw [put_all _ _ (by rw [Ent.len, hl])] at h1
  unfold Holds at h1
  simpa using h1

set_option maxRecDepth 100000 in
set_option maxHeartbeats 4000000 in
theorem getEnt_any (x : Ent) (l' : ByteArray) (f' : Bool) (B g h b : Nat) (l : ByteArray) (hsz : l.size ≤ 140737488351232) (f : Bool) (ext : Exts) (w : World) (hp : GetSt w B g h l f ext) (hk : rentS l f = (x, l', f'))
    (mb : (b, 94, [Value.pointer (some ⟨g, 0, none⟩)]) ∈ ext) :
    Calls Try.prog 63 #[.pointer (some ⟨b, 0, none⟩)] w fun e w' => e = .returned (.agg x.cells.toArray) ∧ x.fine ∧ GetSt w' B g h l' f' ext ∧ Below B w w' := by
  obtain ⟨a1, l1, f1, e1⟩ : ∃ a1 l1 f1, rtextS l f 1 = (a1, l1, f1) := ⟨_, _, _, rfl⟩
  obtain ⟨a2, l2, f2, e2⟩ : ∃ p q r, rnumS l1 f1 1 = (p, q, r) := ⟨_, _, _, rfl⟩
  obtain ⟨a3, l3, f3, e3⟩ : ∃ p q r, rnumS l2 f2 1 = (p, q, r) := ⟨_, _, _, rfl⟩
  have hk2 : ((⟨a1, a2, a3⟩ : Ent), l3, f3) = (x, l', f') := by
    rw [← hk]
    unfold rentS
    simp only [e1, e2, e3]
  obtain ⟨hx, hk3⟩ := Prod.mk.inj hk2
  obtain ⟨rfl, rfl⟩ := Prod.mk.inj hk3
  have hfx : x.fine := by rw [← hx]; show a1.size ≤ _; have := (rtextS_less e1).2; omega
  have hlt := hid hp.lt
  have hBw := hid hp.size
  have hX : GetSt (w.alloc (.cells z3 60)) B g h l f ((w.heap.size, 60, z3.toList) :: ext) := hp.with z3 _
  have hb0 := hid (((Below.refl B w).alloc hp.size (.cells z3 60)).drew)
  have hp0 := hid (hX.keep (below_drew1 _))
  have n1 := hid (fun W (hW : GetSt W B g h l f ((w.heap.size, 60, z3.toList) :: ext)) => cTextR_any 1 a1 f1 B g h l l1 f _ W (by omega) hW e1)
  have n2 := hid (fun W (hW : GetSt W B g h l1 f1 ((w.heap.size, 60, z3.toList) :: ext)) => cNumR_any 1 a2 f2 B g h l1 l2 f1 _ W hW e2)
  have n3 := hid (fun W (hW : GetSt W B g h l2 f2 ((w.heap.size, 60, z3.toList) :: ext)) => cNumR_any 1 a3 f3 B g h l2 l3 f2 _ W hW e3)
  have cel : ∀ {W' : World} {l0 : ByteArray} {f0 : Bool}, GetSt W' B g h l0 f0 ((w.heap.size, 60, z3.toList) :: ext) → W'.cell? ⟨b, 0, none⟩ = some (.pointer (some ⟨g, 0, none⟩)) := fun k => by
    have k1 := (k.held (List.mem_cons_of_mem _ mb)).cell 0
    simpa using k1
  have cl := hid (fun (W' : World) (l0 : ByteArray) (f0 : Bool) => @cel W' l0 f0)
  have cv := hid (fun (W' : World) (l0 : ByteArray) (f0 : Bool) (k : GetSt W' B g h l0 f0 ext) => show W'.cell? ⟨b, 0, none⟩ = some (.pointer (some ⟨g, 0, none⟩)) from by
    have k1 := (k.held mb).cell 0
    simpa using k1)
  have c0 := cel (hX.keep (below_drew1 _))
  have hiS := ent_size x
  have hall := x.one
  have hiX : (Try.prog.info? 60).map (·.size) = some x.cells.length := by rw [Ent.len]; exact Try.infoEnt
  have hfx' := hid hfx
  have hx' := hid hx
  have hbuild' := hid (show x.cells.toArray = #[Value.string a1, .int .i64 a2, .int .i64 a3] from by rw [← hx]; rfl)
  clear hp hX hk hk2 hk3 mb e1 e2 e3 cel hx hfx
  go_enter Try.func63, Try.ntmps63
  go_wp2_with (first
    | ((with_reducible refine at_slot (some 1) ?_); refine wpList_run rfl (.pointer (some ⟨w.heap.size, 0, none⟩)) (w.alloc (.cells z3 60)) (by kernel_rfl) ?_)
    | fail)
  refine wp_region_held_drew (S := fun W => W.cell? ⟨b, 0, none⟩ = some (.pointer (some ⟨g, 0, none⟩))) (by kernel_rfl) (by exact c0) (fun hHeld => ?_)
  refine wpAnyH_take (i := 0) (v := .pointer (some ⟨g, 0, none⟩)) rfl (by kernel_rfl) (by kernel_rfl) (by kernel_rfl) (fun _ _ _ h => h) (.inl ⟨by kernel_rfl, fun w hw => by have hw1 := hw; go_simp⟩) hHeld ?_
  simp only [ly1, ly2, ly3, Act.put, ly5, ly6, ly7]
  refine wpAnyH_take (i := 2) (v := .pointer (some ⟨g, 0, none⟩)) rfl (by kernel_rfl) (by kernel_rfl) (by kernel_rfl) (fun _ _ _ h => h) (.inl ⟨by kernel_rfl, fun w hw => by have hw1 := hw; go_simp⟩) hHeld ?_
  simp only [ly1, ly2, ly3, Act.put, ly5, ly6, ly7]
  refine wpAnyH_take (i := 4) (v := .pointer (some ⟨g, 0, none⟩)) rfl (by kernel_rfl) (by kernel_rfl) (by kernel_rfl) (fun _ _ _ h => h) (.inl ⟨by kernel_rfl, fun w hw => by have hw1 := hw; go_simp⟩) hHeld ?_
  simp only [ly1, ly2, ly3, Act.put, ly5, ly6, ly7]
  refine wpAnyH_ready (rs := [1]) (by kernel_rfl) (by simp) (AllReadyH.cons rfl (fun K hK => ?_) AllReadyH.nil)
  have hK' := hid hK
  clear hK
  rw [if_pos (by kernel_rfl)]
  simp only [ly1, ly2, ly3]
  go_simp
  refine (n1.out _ hp0.out).mono ?_
  rintro e w1 ⟨rfl, h1, h2⟩
  have c1 := cl.out _ _ _ h1
  have hp1 := hid h1
  have hb1 := hid (hb0.out.trans h2)
  clear h1 h2
  refine hK'.out _ _ (by exact c1) (fun hHeld => ?_)
  clear hK' K
  refine wpAnyH_ready (rs := [3]) (by kernel_rfl) (by simp) (AllReadyH.cons rfl (fun K hK => ?_) AllReadyH.nil)
  have hK' := hid hK
  clear hK
  rw [if_pos (by kernel_rfl)]
  simp only [ly1, ly2, ly3]
  go_simp
  refine (n2.out _ hp1.out).mono ?_
  rintro e w2 ⟨rfl, h1, h2⟩
  have c2 := cl.out _ _ _ h1
  have hp2 := hid h1
  have hb2 := hid (hb1.out.trans h2)
  clear h1 h2
  refine hK'.out _ _ (by exact c2) (fun hHeld => ?_)
  clear hK' K
  refine wpAnyH_ready (rs := [5]) (by kernel_rfl) (by simp) (AllReadyH.cons rfl (fun K hK => ?_) AllReadyH.nil)
  have hK' := hid hK
  clear hK
  rw [if_pos (by kernel_rfl)]
  simp only [ly1, ly2, ly3]
  go_simp
  refine (n3.out _ hp2.out).mono ?_
  rintro e w3 ⟨rfl, h1, h2⟩
  have c3 := cl.out _ _ _ h1
  have hp3 := hid h1
  have hb3 := hid (hb2.out.trans h2)
  clear h1 h2
  refine hK'.out _ _ (by exact c3) (fun hHeld => ?_)
  clear hK' K
  refine wpAnyH_take (i := 6) (v := .agg #[.int .i64 a2, .int .i64 a3]) rfl (by kernel_rfl) (by kernel_rfl) (by kernel_rfl) (fun _ _ _ h => h) (.inl ⟨by kernel_rfl, fun w _ => by go_simp⟩) hHeld ?_
  simp only [ly1, ly2, ly3, Act.put, ly5, ly6, ly7]
  refine wpAnyH_take (i := 7) (v := .agg x.cells.toArray) rfl (by kernel_rfl) (by kernel_rfl) (by kernel_rfl) (fun _ _ _ h => h) (.inl ⟨by kernel_rfl, fun w _ => by rw [hbuild'.out]; go_simp⟩) hHeld ?_
  simp only [ly1, ly2, ly3, Act.put, ly5, ly6, ly7]
  refine wpAnyH_ready (rs := [8]) (by kernel_rfl) (by simp) (AllReadyH.cons rfl (fun K hK => ?_) AllReadyH.nil)
  have hK' := hid hK
  clear hK
  rw [if_pos (by kernel_rfl)]
  simp only [ly1, ly2, ly3]
  obtain ⟨V, hV1, hV2, hV3, hV4, hV5⟩ := GetSt.putEnt x hp3.out hlt.out hBw.out
  have hV2' := hid hV2
  have hV3' := hid hV3
  have hV4' := hid (hb3.out.trans hV4)
  have cV := cv.out _ _ _ hV3
  refine wp_store_mid _ _ _ rfl w.heap.size 0 x.cells.toArray rfl rfl (by exact hV5) (by exact hiS) (by exact hall) ?_
  rw [hV1]
  clear hV1 hV2 hV3 hV4 hV5
  refine hK'.out _ _ (by exact cV) (fun hHeld => ?_)
  clear hK' K
  refine wpAnyH_done (by kernel_rfl) ?_ _
  go_wp2_with fail
  exact bodyPost_ret (results_cell_row rfl _ _ w.heap.size 60 x.cells.toArray (0, 0) _ rfl hV2'.out Try.underlying60 rfl (by exact hiX)) rfl ⟨rfl, hfx'.out, hV3'.out, hV4'.out⟩

/-- So many inodes read: which, what is left, has it failed? -/
def eitemsS : Nat → ByteArray → Bool → List Ent × ByteArray × Bool
  | 0, l, f => ([], l, f)
  | m + 1, l, f =>
    if (rentS l f).2.2 then ([], (rentS l f).2.1, true)
    else if (eitemsS m (rentS l f).2.1 false).2.2 then ([], (eitemsS m (rentS l f).2.1 false).2.1, true)
    else ((rentS l f).1 :: (eitemsS m (rentS l f).2.1 false).1, (eitemsS m (rentS l f).2.1 false).2.1, false)

theorem eitemsS_fail {m : Nat} {l l2 : ByteArray} {f : Bool} {x : Ent} (h : rentS l f = (x, l2, true)) : eitemsS (m + 1) l f = ([], l2, true) := by
  simp [eitemsS, h]
theorem eitemsS_next {m : Nat} {l l2 l' : ByteArray} {f f' : Bool} {x : Ent} {R : List Ent} (h : rentS l f = (x, l2, false)) (hk : eitemsS (m + 1) l f = (R, l', f')) :
    ∃ Y, eitemsS m l2 false = (Y, l', f') ∧ (f' = true → R = []) ∧ (f' = false → R = x :: Y) := by
  obtain ⟨Y, l3, f3, e⟩ : ∃ p q r, eitemsS m l2 false = (p, q, r) := ⟨_, _, _, rfl⟩
  cases f3 with
  | true =>
    simp [eitemsS, h, e] at hk
    obtain ⟨rfl, rfl, rfl⟩ := hk
    exact ⟨Y, e, fun _ => rfl, fun h => by cases h⟩
  | false =>
    simp [eitemsS, h, e] at hk
    obtain ⟨rfl, rfl, rfl⟩ := hk
    exact ⟨Y, e, fun h => (by cases h), fun _ => rfl⟩
theorem eitemsS_nil {m : Nat} : ∀ {l l' : ByteArray} {f : Bool} {R : List Ent}, eitemsS m l f = (R, l', true) → R = [] := by
  cases m with
  | zero => intro l l' f R h; exact (Prod.mk.inj h).1.symm
  | succ m =>
    intro l l' f R h
    unfold eitemsS at h
    split at h
    · exact (Prod.mk.inj h).1.symm
    · split at h
      · exact (Prod.mk.inj h).1.symm
      · exact absurd (Prod.mk.inj (Prod.mk.inj h).2).2 (by decide)


/-- Dirents' cells in a row. -/
def entCells (xs : List Ent) : List Value := xs.flatMap Ent.cells
theorem entCells_snoc (xs : List Ent) (x : Ent) : entCells (xs ++ [x]) = entCells xs ++ x.cells := by simp [entCells]
theorem entCells_length {xs : List Ent} (h : ∀ x ∈ xs, x.fine) : (entCells xs).length = xs.length * 3 := by
  induction xs with
  | nil => rfl
  | cons x xs ih =>
    show (x.cells ++ entCells xs).length = _
    rw [List.length_append, Ent.len x, ih fun y hy => h y (List.mem_cons_of_mem _ hy), List.length_cons]
    omega
theorem entCells_at {xs : List Ent} (h : ∀ x ∈ xs, x.fine) : ∀ (i : Nat) (hi : i < xs.length) (j : Nat) (v : Value), xs[i].cells[j]? = some v → (entCells xs)[i * 3 + j]? = some v := by
  induction xs with
  | nil => intro i hi; cases hi
  | cons x xs ih =>
    intro i hi j v hv
    have hx := Ent.len x
    show (x.cells ++ entCells xs)[_]? = _
    cases i with
    | zero =>
      have hj : j < x.cells.length := (List.getElem?_eq_some_iff.1 hv).1
      rw [Nat.zero_mul, Nat.zero_add, List.getElem?_append_left hj]
      exact hv
    | succ i =>
      rw [List.getElem?_append_right (by rw [hx]; omega), show (i + 1) * 3 + j - x.cells.length = i * 3 + j from by rw [hx]; omega]
      exact ih (fun y hy => h y (List.mem_cons_of_mem _ hy)) i (by simpa using hi) j v hv

/-- The row of the inodes read so far: what is held of it. -/
def EGot (n0 : Nat) (A : Option Addr) (c : Nat) (xs : List Ent) (ex : Exts) : Prop :=
  (∀ x ∈ xs, x.fine) ∧ ((A = none ∧ c = 0 ∧ xs = [] ∧ ex = []) ∨
    ∃ rb cur, A = some ⟨rb, 0, none⟩ ∧ n0 ≤ rb ∧ ex = [(rb, 60, cur)] ∧ xs.length ≤ c ∧ c ≤ maxLen ∧ cur.length = c * 3 ∧ cur.take (xs.length * 3) = entCells xs)
theorem EGot.none (n0 : Nat) : EGot n0 none 0 [] [] := ⟨fun x hx => (by cases hx), .inl ⟨rfl, rfl, rfl, rfl⟩⟩

section
variable {w w' : World} {B g h n0 : Nat} {l : ByteArray} {f : Bool} {ext ex : Exts} {A : Option Addr} {c : Nat} {xs : List Ent}

theorem EGot.own (hg : EGot n0 A c xs ex) (hp : GetSt w B g h l f (ex ++ ext)) : w.ownsRow n0 60 3 (.slice A xs.length c) xs.length (entCells xs) := by
  obtain ⟨hf, ⟨rfl, rfl, rfl, rfl⟩ | ⟨rb, cur, rfl, hrb, rfl, h1, h2, h3, h4⟩⟩ := hg
  · exact World.ownsRow_nil w _ _ _
  · have hh := hp.held (q := rb) (t := 60) (cs := cur) (List.mem_append_left _ (List.mem_singleton.2 rfl))
    exact ⟨entCells_length hf, .inr ⟨rb, c, cur.toArray, rfl, hrb, hh, h1, h2, by rw [List.size_toArray, h3], by simpa using h4⟩⟩

theorem EGot.of_own (hf : ∀ x ∈ xs, x.fine) (hlt : ExtLt n0 g h ext) (hp : GetSt w B g h l f ext) (hrow : w.ownsRow n0 60 3 (.slice A xs.length c) xs.length (entCells xs)) : ∃ ex, EGot n0 A c xs ex ∧ GetSt w B g h l f (ex ++ ext) := by
  obtain ⟨_, ⟨hv, h0⟩ | ⟨rb, cap, cur, hv, hrb, hh, h1, h2, h3, h4⟩⟩ := hrow
  · injection hv with e1 e2 e3
    subst e1; subst e3
    obtain rfl := List.eq_nil_of_length_eq_zero h0
    exact ⟨[], EGot.none n0, hp⟩
  · injection hv with e1 e2 e3
    subst e1; subst e3
    refine ⟨[(rb, 60, cur.toList)], ⟨hf, .inr ⟨rb, cur.toList, rfl, hrb, rfl, h1, h2, by rw [Array.length_toList, h3], h4⟩⟩, ?_⟩
    obtain ⟨k1, k2, k3, k4, k5, k6, k7⟩ := hp
    refine ⟨k1, k2, k3, fun x hx => ?_, k5, k6, k7⟩
    rcases List.mem_cons.1 hx with rfl | hx
    · exact ⟨hh, fun e => by have := hlt.1; dsimp only at e; omega, fun e => by have := hlt.2.1; dsimp only at e; omega⟩
    · exact k4 x hx

theorem EGot.ents (hg : EGot n0 A c xs ex) (hp : GetSt w B g h l f (ex ++ ext)) : Ents w w.heap.size A xs.length xs := by
  have hat := At.of_own (hg.own hp)
  refine ⟨rfl, hg.1, ?_⟩
  rcases hat.2 with h0 | ⟨p, hA, hB, hc⟩
  · exact .inl h0
  · refine .inr ⟨p, hA, hB, fun i hi j v hv => ?_⟩
    have h1 := entCells_at hg.1 i hi j v hv
    obtain ⟨hlt, hv2⟩ := List.getElem?_eq_some_iff.1 h1
    have h2 := hc _ hlt
    rw [hv2] at h2
    rw [show (p.add (i * 3)).add j = p.add (i * 3 + j) from add_add _ _ _]
    exact h2
end


/-- What Items answers. -/
def EItemsPost (B g h n0 : Nat) (ext : Exts) (R : List Ent) (l' : ByteArray) (f' : Bool) (w : World) (e : Ending) (w' : World) : Prop :=
  ∃ A c ex, e = .returned (.slice A R.length c) ∧ EGot n0 A c R ex ∧ GetSt w' B g h l' f' (ex ++ ext) ∧ Below B w w'

set_option maxRecDepth 100000 in
set_option maxHeartbeats 6000000 in
theorem itemsEnt_any (R : List Ent) (x : Int) (l1 l' : ByteArray) (f1 f' : Bool) (B g h b : Nat) (l : ByteArray) (hsz : l.size ≤ 140737488351232) (f : Bool) (ext : Exts) (w : World) (hp : GetSt w B g h l f ext) (hk1 : rnumS l f 1 = (x, l1, f1)) (hk : eitemsS x.toNat l1 f1 = (R, l', f'))
    (mb : (b, 94, [Value.pointer (some ⟨g, 0, none⟩)]) ∈ ext) :
    Calls Try.prog 62 #[.pointer (some ⟨g, 0, none⟩), .int .i64 1, .func (.func 63) #[] #[.pointer (some ⟨b, 0, none⟩)]] w (EItemsPost B g h w.heap.size ext R l' f' w) := by
  obtain ⟨ih, hhi, hhz, hhs, hhb⟩ := info_parts Try.infoEntI
  obtain ⟨hx0, hx1⟩ := rnumS_small hk1
  obtain ⟨m, rfl⟩ : ∃ m : Nat, x = (m : Int) := ⟨x.toNat, by omega⟩
  have hm : m ≤ 255 := by omega
  rw [Int.toNat_natCast] at hk
  have hl1z : l1.size ≤ 140737488351232 := Nat.le_trans (rnumS_less hk1) hsz
  have hlt := hid hp.lt
  have hBw := hid hp.size
  have hN := hid (cNumR_any 1 (m : Int) f1 B g h l l1 f ext w hp hk1)
  obtain ⟨n0, hn0⟩ : ∃ n0, w.heap.size = n0 := ⟨_, rfl⟩
  have hget := hid (fun (y : Ent) (l2 l3 : ByteArray) (hz : l2.size ≤ 140737488351232) (f2 f3 : Bool) (ex : Exts) (W : World) (k : GetSt W B g h l2 f2 (ex ++ ext)) (hr : rentS l2 f2 = (y, l3, f3)) => getEnt_any y l3 f3 B g h b l2 hz f2 (ex ++ ext) W k hr (List.mem_append_right _ mb))
  rw [hn0] at hlt hBw
  have hn0' := hid hn0
  have hk' := hid hk
  rw [hn0]
  clear hp hk hk1 hx0 hx1 mb hn0
  go_enter Try.func62, Try.ntmps62
  go_wp2_with fail
  refine hN.out.mono ?_
  rintro e w1 ⟨rfl, h1, h2⟩
  have h1' := hid h1
  have h2' := hid h2
  clear h1 h2
  go_wp2_with fail
  go_loopw [7, 12] (fun v i wr => ∃ (k : Nat) (xs : List Ent) (A : Option Addr) (c : Nat) (ex : Exts) (lk : ByteArray) (fk : Bool) (Y : List Ent), k = xs.length ∧ k ≤ m ∧ i = .int .i64 (k : Int) ∧ v = .slice A xs.length c ∧ EGot n0 A c xs ex ∧ GetSt wr B g h lk fk (ex ++ ext) ∧ Below B w wr ∧ n0 ≤ wr.heap.size ∧ eitemsS (m - k) lk fk = (Y, l', f') ∧ (f' = true → R = []) ∧ (f' = false → R = xs ++ Y) ∧ (fk = true → xs = []) ∧ lk.size ≤ 140737488351232) (fun _ i _ => m - (intOf i).toNat)
  case atStart => exact ⟨0, [], none, 0, [], l1, f1, R, rfl, Nat.zero_le _, rfl, rfl, EGot.none n0, h1'.out, h2'.out, by have := h2'.out.size; rw [hn0'.out] at this; exact this, hk'.out, fun h => eitemsS_nil (h ▸ hk'.out), fun _ => rfl, fun _ => rfl, hl1z⟩
  case round =>
    obtain ⟨k, xs, A, c, ex, lk, fk, Y, hkx, hkm, rfl, rfl, hgot, hpr, hBr, hnr, hit, hr1, hr2, hr3, hlkz⟩ := hrel
    have hgot' := hid hgot
    have hBr' := hid hBr
    have hnr' := hid hnr
    have hr1' := hid hr1
    have hr2' := hid hr2
    have hr3' := hid hr3
    have hkx' := hid hkx
    clear hgot hBr hnr hr1 hr2 hr3 hkx
    by_cases hlm : k < m
    · have hlm' : (k : Int) < (m : Int) := by omega
      obtain ⟨y, l2, f2, hr⟩ : ∃ p q r, rentS lk fk = (p, q, r) := ⟨_, _, _, rfl⟩
      have hcall := hid (hget.out y lk l2 hlkz fk f2 ex wr hpr hr)
      rw [show m - k = (m - (k + 1)) + 1 from by omega] at hit
      have hit' := hid hit
      have hrr := hid hr
      have hl2z : l2.size ≤ 140737488351232 := Nat.le_trans (rentS_less hr) hlkz
      clear hpr hit hr
      go_wp2_with fail
      refine hcall.out.mono ?_
      rintro e w2 ⟨rfl, hfy, h3, h4⟩
      have hth := ent_there w2 y
      have hsz := ent_size y
      have hone := y.one
      have hi1 : (Try.prog.info? 60).map (·.size) = some y.cells.length := by rw [Ent.len]; exact Try.infoEnt
      obtain ⟨W1, hW1⟩ : ∃ W1, (w2.alloc (.cells z3 60)).setCells w2.heap.size 0 y.cells = W1 := ⟨_, rfl⟩
      obtain ⟨hv, hb1⟩ := ent_var hW1
      have hp1 := h3.keep hb1
      have hBW := hid (hBr'.out.trans (h4.trans (hb1.mono h3.size)))
      have hnW : n0 ≤ W1.heap.size := Nat.le_trans hnr'.out (Nat.le_trans h4.size hb1.size)
      have hc1 := hp1.failed
      have hp1' := hid hp1
      have hvr := hold_range hv
      have hW1' := hid hW1
      have hfy' := hid hfy
      have hnW' := hid hnW
      clear h3 h4 hv hb1 hp1 hW1 hfy hnW
      cases f2 with
      | true =>
        rw [eitemsS_fail hrr.out] at hit'
        obtain ⟨-, e2⟩ := Prod.mk.inj hit'.out
        obtain ⟨rfl, rfl⟩ := Prod.mk.inj e2
        have hR := hid (hr1'.out rfl)
        have hfin : GetSt W1 B g h l2 true ext := hp1'.out.sub fun q hq => List.mem_append_right _ hq
        have hfin' := hid hfin
        clear e2 hfin hit'
        go_wp2_with (first
          | ((with_reducible refine at_slot (some 8) ?_); refine wpList_run rfl (.pointer (some ⟨w2.heap.size, 0, none⟩)) (w2.alloc (.cells z3 60)) (by kernel_rfl) ?_)
          | ((with_reducible refine at_slot none ?_); refine wpList_store_mid rfl 60 (.tmp 8) (.tmp 15) rfl w2.heap.size 0 y.cells.toArray rfl rfl (by exact hth) (by exact hsz) (by exact hone) ?_; rw [hW1'.out])
          | fail)
        go_ret
        rw [hR.out]
        exact ⟨none, 0, [], rfl, EGot.none n0, hfin'.out, hBW.out⟩
      | false =>
        obtain ⟨Y2, hy1, hy2, hy3⟩ := eitemsS_next hrr.out hit'.out
        have hy1' := hid hy1
        have hy3' := hid hy3
        clear hy1 hy2 hy3 hit' hrr
        obtain ⟨W2, hW2⟩ : ∃ W2, W1.alloc (.cells y.cells.toArray 60) = W2 := ⟨_, rfl⟩
        have hb2 : Below W1.heap.size W1 W2 := by rw [← hW2]; exact (Below.refl _ _).alloc (Nat.le_refl _) _
        have hp2 := hid (hp1'.out.keep hb2)
        have hown := hid (hgot'.out.own hp2.out)
        have hat : At W2 W2.heap.size 3 (some ⟨W1.heap.size, 0, none⟩) 1 y.cells := by
          refine ⟨by rw [Ent.len], .inr ⟨_, rfl, ?_, fun j hj => ?_⟩⟩
          · rw [← hW2]; simp
          · have hh := Holds.new W1 60 y.cells.toArray
            rw [hW2] at hh
            rw [show (⟨W1.heap.size, 0, none⟩ : Addr).add j = ⟨W1.heap.size, j, none⟩ from by unfold Addr.add; split <;> simp_all, hh.cell]
            exact List.getElem?_eq_getElem hj
        have hat' := hid hat
        have hB2 := hid (hBW.out.trans (hb2.mono hp1'.out.size))
        have hn2 := hid (Nat.le_trans hnW'.out hb2.size)
        have hW2' := hid hW2
        have hones : ∀ u ∈ y.cells, u.oneCell' = true := fun u hu => by
          have := Array.all_eq_true_iff_forall_mem.1 hone u (by simpa using hu)
          exact this
        have hones' := hid hones
        clear hb2 hat hW2 hones
        go_wp2_with (first
          | ((with_reducible refine at_slot (some 8) ?_); refine wpList_run rfl (.pointer (some ⟨w2.heap.size, 0, none⟩)) (w2.alloc (.cells z3 60)) (by kernel_rfl) ?_)
          | ((with_reducible refine at_slot none ?_); refine wpList_store_mid rfl 60 (.tmp 8) (.tmp 15) rfl w2.heap.size 0 y.cells.toArray rfl rfl (by exact hth) (by exact hsz) (by exact hone) ?_; rw [hW1'.out])
          | ((with_reducible refine at_slot (some 21) ?_); refine wpList_load_mid rfl 60 (.tmp 8) rfl w2.heap.size 0 rfl y.cells _ (by exact hvr) Try.underlying60 rfl (by exact hi1) ?_)
          | ((with_reducible refine at_slot (some 22) ?_); refine wpList_buildSlice_one rfl 36 60 (.tmp 21) rfl ih _ Try.underlying36 hhi hhz y.cells.toArray rfl (by rw [hhs, List.size_toArray, Ent.len]) (by rw [List.size_toArray, Ent.len]; decide) (by rw [List.size_toArray, Ent.len]; decide) ?_; rw [hW2'.out])
          | (at_builtin; refine wpList_appends rfl (.tmp 20) (.tmp 22) 36 60 rfl n0 ih _ 3 32 Try.underlying36 hhi hhz hhs hhb (by decide) (by decide) A xs.length c (entCells xs) W2.heap.size (some ⟨W1.heap.size, 0, none⟩) 1 1 y.cells rfl rfl (by intro h; cases h) (by exact hones'.out) (by have := hkx'.out; omega) (by have := hkx'.out; omega) (by exact hown.out) (by exact hat'.out) (by exact hn2.out) ?_; intro A2 c2 w3 hrow hb3 _; have hrow' := hid hrow; have hb3' := hid hb3; clear hrow hb3)
          | fail)
        have hlen : (xs ++ [y]).length = xs.length + 1 := by simp
        have hp3 : GetSt w3 B g h l2 false ext := (hp2.out.sub fun q hq => List.mem_append_right _ hq).keepN hlt.out hb3'.out
        have hfine : ∀ q ∈ xs ++ [y], q.fine := fun q hq => by
          rcases List.mem_append.1 hq with hq | hq
          · exact hgot'.out.1 q hq
          · rw [List.mem_singleton.1 hq]; exact hfy'.out
        have hrow3 := hrow'.out
        rw [← entCells_snoc, ← hlen] at hrow3
        obtain ⟨ex2, hg2, hpe⟩ := EGot.of_own hfine hlt.out hp3 hrow3
        have hrel : Below B w w3 := hB2.out.trans (hb3'.out.mono hBw.out)
        have hn3 : n0 ≤ w3.heap.size := Nat.le_trans hn2.out hb3'.out.size
        go_roundw
        case rel => exact ⟨k + 1, xs ++ [y], A2, c2, ex2, l2, false, Y2, by rw [hlen, hkx'.out], by omega, by go_num, by rw [hlen], hg2, hpe, hrel, hn3, hy1'.out, hr1'.out, fun h => by rw [hr2'.out h, hy3'.out h]; simp, (fun h => by cases h), hl2z⟩
        case measure => simp [intOf]; omega
    · have hlm' : ¬ (k : Int) < (m : Int) := by omega
      have e1 : m - k = 0 := by omega
      rw [e1] at hit
      obtain ⟨rfl, e2⟩ := Prod.mk.inj hit
      obtain ⟨rfl, rfl⟩ := Prod.mk.inj e2
      have hR : R = xs := by
        cases fk with
        | true => rw [hr1'.out rfl, hr3'.out rfl]
        | false => rw [hr2'.out rfl, List.append_nil]
      have hpr' := hid hpr
      have hR' := hid hR
      clear hpr hit e2 hR
      go_wp2_with fail
      go_ret
      rw [hR'.out]
      exact ⟨A, c, ex, rfl, hgot'.out, hpr'.out, hBr'.out⟩

/-- What Get answers. -/
noncomputable def egetS (s : ByteArray) : List Ent × Int :=
  if !(eitemsS (rnumS (rmarkS 68 s false).1 (rmarkS 68 s false).2 1).1.toNat (rnumS (rmarkS 68 s false).1 (rmarkS 68 s false).2 1).2.1 (rnumS (rmarkS 68 s false).1 (rmarkS 68 s false).2 1).2.2).2.2
    && decide ((eitemsS (rnumS (rmarkS 68 s false).1 (rmarkS 68 s false).2 1).1.toNat (rnumS (rmarkS 68 s false).1 (rmarkS 68 s false).2 1).2.1 (rnumS (rmarkS 68 s false).1 (rmarkS 68 s false).2 1).2.2).2.1.size = 0)
    && dirB (eitemsS (rnumS (rmarkS 68 s false).1 (rmarkS 68 s false).2 1).1.toNat (rnumS (rmarkS 68 s false).1 (rmarkS 68 s false).2 1).2.1 (rnumS (rmarkS 68 s false).1 (rmarkS 68 s false).2 1).2.2).1
  then ((eitemsS (rnumS (rmarkS 68 s false).1 (rmarkS 68 s false).2 1).1.toNat (rnumS (rmarkS 68 s false).1 (rmarkS 68 s false).2 1).2.1 (rnumS (rmarkS 68 s false).1 (rmarkS 68 s false).2 1).2.2).1, 0)
  else ([], 1300)
theorem egetS_eq {s l0 l1 l' : ByteArray} {f0 f1 f' : Bool} {x : Int} {R : List Ent} (h0 : rmarkS 68 s false = (l0, f0)) (h1 : rnumS l0 f0 1 = (x, l1, f1)) (h2 : eitemsS x.toNat l1 f1 = (R, l', f')) :
    egetS s = if !f' && decide (l'.size = 0) && dirB R then (R, 0) else ([], 1300) := by
  unfold egetS
  simp only [h0, h1, h2]

def EGetPost (R : List Ent) (x : Int) (w : World) (e : Ending) (w' : World) : Prop :=
  ∃ A c, e = .returned (.tuple #[.slice A R.length c, .int .i64 x]) ∧ w'.ownsRow w.heap.size 60 3 (.slice A R.length c) R.length (entCells R) ∧ (∀ q ∈ R, q.fine) ∧ Below w.heap.size w w'
theorem EGetPost.nil {w w' : World} (hb : Below w.heap.size w w') : EGetPost [] 1300 w (.returned (.tuple #[.slice none 0 0, .int .i64 1300])) w' := ⟨none, 0, rfl, World.ownsRow_nil _ _ _ _, fun q hq => (by cases hq), hb⟩

theorem ents_of_own {w : World} {n0 c : Nat} {A : Option Addr} {xs : List Ent} (hf : ∀ x ∈ xs, x.fine) (h : w.ownsRow n0 60 3 (.slice A xs.length c) xs.length (entCells xs)) : Ents w w.heap.size A xs.length xs := by
  have hat := At.of_own h
  refine ⟨rfl, hf, ?_⟩
  rcases hat.2 with h0 | ⟨p, hA, hB, hc⟩
  · exact .inl h0
  · refine .inr ⟨p, hA, hB, fun i hi j v hv => ?_⟩
    have h1 := entCells_at hf i hi j v hv
    obtain ⟨hlt, hv2⟩ := List.getElem?_eq_some_iff.1 h1
    have h2 := hc _ hlt
    rw [hv2] at h2
    rw [show (p.add (i * 3)).add j = p.add (i * 3 + j) from add_add _ _ _]
    exact h2

theorem eitemsS_length {m : Nat} : ∀ {l l' : ByteArray} {f f' : Bool} {R : List Ent}, eitemsS m l f = (R, l', f') → R.length ≤ m := by
  induction m with
  | zero => intro l l' f f' R h; rw [← (Prod.mk.inj h).1]; exact Nat.le_refl _
  | succ m ih =>
    intro l l' f f' R h
    unfold eitemsS at h
    split at h
    · rw [← (Prod.mk.inj h).1]; exact Nat.zero_le _
    · split at h
      · rw [← (Prod.mk.inj h).1]; exact Nat.zero_le _
      · rw [← (Prod.mk.inj h).1, List.length_cons]
        have := ih (l := (rentS l f).2.1) (f := false) rfl
        omega

set_option maxRecDepth 100000 in
set_option maxHeartbeats 4000000 in
theorem dirGet_any (s : ByteArray) (hS : s.size ≤ 140737488351232) (R : List Ent) (x : Int) (hs : egetS s = (R, x)) (w : World) : Calls Try.prog 24 #[.string s] w (EGetPost R x w) := by
  obtain ⟨l0, f0, e0⟩ : ∃ p q, rmarkS 68 s false = (p, q) := ⟨_, _, rfl⟩
  obtain ⟨n, l1, f1, e1⟩ : ∃ p q r, rnumS l0 f0 1 = (p, q, r) := ⟨_, _, _, rfl⟩
  obtain ⟨R2, l2, f2, e2⟩ : ∃ p q r, eitemsS n.toNat l1 f1 = (p, q, r) := ⟨_, _, _, rfl⟩
  rw [egetS_eq e0 e1 e2] at hs
  have hl0z : l0.size ≤ 140737488351232 := by
    unfold rmarkS at e0
    rw [← (Prod.mk.inj e0).1]
    exact Nat.le_trans (rnumS_less (Prod.eta _).symm) hS
  have hlen : R2.length ≤ 255 := by
    have h1 := eitemsS_length e2
    have h2 := rnumS_small e1
    omega
  obtain ⟨q, hq⟩ : ∃ q, w.heap.size = q := ⟨_, rfl⟩
  have hp0 := GetSt.fresh w s
  have hb0 : Below w.heap.size w (((w.alloc (.cells #[.string s] 158)).alloc (.cells #[.pointer (some ⟨w.heap.size, 0, none⟩), .bool false] 138)).alloc (.cells #[.pointer (some ⟨w.heap.size + 1, 0, none⟩)] 94)) :=
    (((Below.refl w.heap.size w).alloc (Nat.le_refl _) _).alloc (by simp) _).alloc (by simp; omega) _
  have hc0 := (hp0.held (List.mem_cons_self ..)).cell 0
  simp at hc0
  have hM1 := cMarkR_any 68 _ _ _ _ _ _ f0 _ _ hp0 e0
  rw [hq] at hM1 hb0 hc0
  have hM := hid hM1
  have hq' := hid hq
  have hb0' := hid hb0
  have hs' := hid hs
  have e1' := hid e1
  have e2' := hid e2
  clear hp0 hb0 hs e0 e1 e2 hM1
  go_enter Try.func24, Try.ntmps24
  go_wp2_with (go_at_call 60; refine (codecOpen_any _ _).mono ?_; rintro e w' ⟨rfl, rfl⟩)
  refine hM.out.mono ?_
  rintro e w2 ⟨rfl, h2, hb2⟩
  have hc2 := (h2.held (List.mem_cons_self ..)).cell 0
  simp at hc2
  have hI := hid (itemsEnt_any R2 n l1 l2 f1 f2 q (q + 1) q (q + 1 + 1) l0 hl0z f0 _ w2 h2 e1'.out e2'.out (List.mem_cons_self ..))
  have hbq := hid (hb0'.out.trans hb2)
  have hq2 := hid h2.size
  clear h2 hb2
  go_wp2_with fail
  refine hI.out.mono ?_
  rintro e w3 ⟨A, c, ex, rfl, hgot, h3, hb3⟩
  have hc3 := (h3.held (List.mem_append_right ex (List.mem_cons_self ..))).cell 0
  simp at hc3
  have hD := hid (cDone_any q (q + 1) q l2 f2 _ w3 h3)
  have hb4 := hid (hbq.out.trans hb3)
  have h3' := hid h3
  have hgot' := hid hgot
  clear h3 hb3 hgot
  cases hd : (!f2 && decide (l2.size = 0)) with
  | false =>
    rw [hd] at hD
    have hr : (([] : List Ent), (1300 : Int)) = (R, x) := by rw [← hs'.out, hd]; rfl
    obtain ⟨rfl, rfl⟩ := Prod.mk.inj hr
    clear hr hd
    go_wp2_with fail
    refine hD.out.mono ?_
    rintro e w4 ⟨rfl, rfl⟩
    go_wp2_with fail
    go_ret2
    exact EGetPost.nil (by rw [hq'.out]; exact hb4.out)
  | true =>
    rw [hd] at hD
    have hMay := hid (dirMay_any A R2.length c w3.heap.size R2 w3 (hgot'.out.ents h3'.out) (Nat.le_refl _) (by omega))
    have hs2 := hs'.out
    rw [hd, Bool.true_and] at hs2
    cases hi : dirB R2 with
    | false =>
      rw [hi] at hMay hs2
      obtain ⟨rfl, rfl⟩ := Prod.mk.inj hs2
      clear hs2 hi hd
      go_wp2_with fail
      refine hD.out.mono ?_
      rintro e w4 ⟨rfl, rfl⟩
      go_wp2_with fail
      refine hMay.out.mono ?_
      rintro e w5 ⟨rfl, h5⟩
      have hb5 := hid (hb4.out.trans (h5.mono h3'.out.size))
      clear h5
      go_wp2_with fail
      go_ret2
      exact EGetPost.nil (by rw [hq'.out]; exact hb5.out)
    | true =>
      rw [hi] at hMay hs2
      obtain ⟨rfl, rfl⟩ := Prod.mk.inj hs2
      clear hs2 hi hd
      go_wp2_with fail
      refine hD.out.mono ?_
      rintro e w4 ⟨rfl, rfl⟩
      go_wp2_with fail
      refine hMay.out.mono ?_
      rintro e w5 ⟨rfl, h5⟩
      have hb5 := hid (hb4.out.trans (h5.mono h3'.out.size))
      have hown := hid (own_less (hgot'.out.own (h3'.out.keep h5)) hq2.out)
      clear h5
      go_wp2_with fail
      go_ret2
      exact ⟨A, c, rfl, by rw [hq'.out]; exact hown.out, hgot'.out.1, by rw [hq'.out]; exact hb5.out⟩

end Go.Proofs.Ytapegklffglnoaa
