/- Layer 14: an inode read. -/
import Derived.Test.YtapegklffglnoaaItD
namespace Go.Proofs.Ytapegklffglnoaa
open Go.RowKit
open Go.Lib (strCells strCells_length strCells_oneCell)

theorem place_list (o : Nat) (l : List Value) (k : Nat) (Z : Array Value) : (l.zipIdx k).foldl (fun cs p => cs.setIfInBounds (o + p.2) p.1) Z = (l.zipIdx (o + k)).foldl (fun cs p => cs.setIfInBounds p.2 p.1) Z := by
  induction l generalizing k Z with
  | nil => rfl
  | cons v l ih => rw [List.zipIdx_cons, List.zipIdx_cons, List.foldl_cons, List.foldl_cons, ih (k + 1)]; rfl
/-- A part of a literal that is an array whose cells are not written out. -/
theorem place_at (o n : Nat) (Y Z : Array Value) (hn : Y.size = n) (h : o + n ≤ Z.size) : Array.foldl (fun cs (x : Value × Nat) => cs.setIfInBounds (o + x.snd) x.fst) Z Y.zipIdx 0 n = (put Z.toList o Y.toList).toArray := by
  subst hn
  have e : Y.size = Y.zipIdx.size := by simp
  rw [e, ← Array.foldl_toList, Array.toList_zipIdx, place_list, Nat.add_zero, foldl_place _ _ _ (by rw [Array.length_toList]; exact h)]

/-- An inode read: what it is, what is left, has it failed? -/
def rinoS (l : ByteArray) (f : Bool) : Ino × ByteArray × Bool :=
  let a := rnumS l f 1
  let b := rnumS a.2.1 a.2.2 1
  let c := rnumS b.2.1 b.2.2 1
  let d := rnumS c.2.1 c.2.2 1
  let e := rnumS d.2.1 d.2.2 2
  let x := rhashS e.2.1 e.2.2
  (⟨a.1, b.1, c.1, d.1, e.1, x.1⟩, x.2.1, x.2.2)

/-- What is held, the cells of an inode's variable written whole. -/
theorem GetSt.putIno {w : World} {B g h : Nat} {l : ByteArray} {f : Bool} {ext : Exts} {q : Nat} (x : Ino) (hx : x.fine) (hp : GetSt w B g h l f ((q, 78, z37.toList) :: ext)) (hn : ExtLt q g h ext) (hB : B ≤ q) :
    ∃ V, w.setCells q 0 x.cells = V ∧ V.heap[q]? = some (.cells x.cells.toArray 78 (0, 0)) ∧ GetSt V B g h l f ext ∧ Below B w V ∧ w.there q 0 x.cells.toArray.size := by
  have hh := hp.held (List.mem_cons_self ..)
  have hl : z37.toList.length = 37 := by decide
  refine ⟨_, rfl, ?_, GetSt.far hp.tail hn (Nat.le_refl _) _, below_setCells (Below.refl _ _) _ _ _ hB, hh.there 0 _ (by rw [List.size_toArray, Ino.len hx, hl]; decide)⟩
  have h1 := hh.put 0 x.cells (by rw [Ino.len hx, hl]; decide)
  rw [put_all _ _ (by rw [Ino.len hx, hl])] at h1
  unfold Holds at h1
  simpa using h1

set_option maxRecDepth 100000 in
set_option maxHeartbeats 4000000 in
theorem getIno_any (x : Ino) (l' : ByteArray) (f' : Bool) (B g h b : Nat) (l : ByteArray) (f : Bool) (ext : Exts) (w : World) (hp : GetSt w B g h l f ext) (hk : rinoS l f = (x, l', f'))
    (mb : (b, 94, [Value.pointer (some ⟨g, 0, none⟩)]) ∈ ext) :
    Calls Try.prog 84 #[.pointer (some ⟨b, 0, none⟩)] w fun e w' => e = .returned (.agg x.cells.toArray) ∧ x.fine ∧ GetSt w' B g h l' f' ext ∧ Below B w w' := by
  obtain ⟨a1, l1, f1, e1⟩ : ∃ a1 l1 f1, rnumS l f 1 = (a1, l1, f1) := ⟨_, _, _, rfl⟩
  obtain ⟨a2, l2, f2, e2⟩ : ∃ p q r, rnumS l1 f1 1 = (p, q, r) := ⟨_, _, _, rfl⟩
  obtain ⟨a3, l3, f3, e3⟩ : ∃ p q r, rnumS l2 f2 1 = (p, q, r) := ⟨_, _, _, rfl⟩
  obtain ⟨a4, l4, f4, e4⟩ : ∃ p q r, rnumS l3 f3 1 = (p, q, r) := ⟨_, _, _, rfl⟩
  obtain ⟨a5, l5, f5, e5⟩ : ∃ p q r, rnumS l4 f4 2 = (p, q, r) := ⟨_, _, _, rfl⟩
  obtain ⟨y, l6, f6, e6⟩ : ∃ p q r, rhashS l5 f5 = (p, q, r) := ⟨_, _, _, rfl⟩
  have hk2 : ((⟨a1, a2, a3, a4, a5, y⟩ : Ino), l6, f6) = (x, l', f') := by
    rw [← hk]
    unfold rinoS
    simp only [e1, e2, e3, e4, e5, e6]
  obtain ⟨hx, hk3⟩ := Prod.mk.inj hk2
  obtain ⟨rfl, rfl⟩ := Prod.mk.inj hk3
  have hfx : x.fine := by rw [← hx]; exact rhashS_size e6
  have hlt := hid hp.lt
  have hBw := hid hp.size
  have hX : GetSt (w.alloc (.cells z37 78)) B g h l f ((w.heap.size, 78, z37.toList) :: ext) := hp.with z37 _
  have hb0 := hid (((Below.refl B w).alloc hp.size (.cells z37 78)).drew)
  have hp0 := hid (hX.keep (below_drew1 _))
  have n1 := hid (fun W (hW : GetSt W B g h l f ((w.heap.size, 78, z37.toList) :: ext)) => cNumR_any 1 a1 f1 B g h l l1 f _ W hW e1)
  have n2 := hid (fun W (hW : GetSt W B g h l1 f1 ((w.heap.size, 78, z37.toList) :: ext)) => cNumR_any 1 a2 f2 B g h l1 l2 f1 _ W hW e2)
  have n3 := hid (fun W (hW : GetSt W B g h l2 f2 ((w.heap.size, 78, z37.toList) :: ext)) => cNumR_any 1 a3 f3 B g h l2 l3 f2 _ W hW e3)
  have n4 := hid (fun W (hW : GetSt W B g h l3 f3 ((w.heap.size, 78, z37.toList) :: ext)) => cNumR_any 1 a4 f4 B g h l3 l4 f3 _ W hW e4)
  have n5 := hid (fun W (hW : GetSt W B g h l4 f4 ((w.heap.size, 78, z37.toList) :: ext)) => cNumR_any 2 a5 f5 B g h l4 l5 f4 _ W hW e5)
  have n6 := hid (fun W (hW : GetSt W B g h l5 f5 ((w.heap.size, 78, z37.toList) :: ext)) => cHashR_any y f6 B g h l5 l6 f5 _ W hW e6)
  have cel : ∀ {W' : World} {l0 : ByteArray} {f0 : Bool}, GetSt W' B g h l0 f0 ((w.heap.size, 78, z37.toList) :: ext) → W'.cell? ⟨b, 0, none⟩ = some (.pointer (some ⟨g, 0, none⟩)) := fun k => by
    have k1 := (k.held (List.mem_cons_of_mem _ mb)).cell 0
    simpa using k1
  have cl := hid (fun (W' : World) (l0 : ByteArray) (f0 : Bool) => @cel W' l0 f0)
  have cv := hid (fun (W' : World) (l0 : ByteArray) (f0 : Bool) (k : GetSt W' B g h l0 f0 ext) => show W'.cell? ⟨b, 0, none⟩ = some (.pointer (some ⟨g, 0, none⟩)) from by
    have k1 := (k.held mb).cell 0
    simpa using k1)
  have c0 := cel (hX.keep (below_drew1 _))
  have hiS := ino_size hfx
  have hall := x.one
  have hiX : (Try.prog.info? 78).map (·.size) = some x.cells.length := by rw [Ino.len hfx]; exact Try.infoIno
  have hbuild : x.cells.toArray = #[Value.int .i64 a1, .int .i64 a2, .int .i64 a3, .int .i64 a4, .int .i64 a5] ++ hcells y := by
    rw [← hx]
    unfold Ino.cells hcells
    simp
  have hbuild' := hid hbuild
  have hYs := hid (hcells_of (rhashS_size e6)).len
  have hfx' := hid hfx
  have hx' := hid hx
  clear hp hX hk hk2 hk3 mb e1 e2 e3 e4 e5 e6 cel hbuild hx hfx
  go_enter Try.func84, Try.ntmps84
  go_wp2_with (first
    | ((with_reducible refine at_slot (some 1) ?_); refine wpList_run rfl (.pointer (some ⟨w.heap.size, 0, none⟩)) (w.alloc (.cells z37 78)) (by kernel_rfl) ?_)
    | fail)
  refine wp_region_held_drew (S := fun W => W.cell? ⟨b, 0, none⟩ = some (.pointer (some ⟨g, 0, none⟩))) (by kernel_rfl) (by exact c0) (fun hHeld => ?_)
  refine wpAnyH_take (i := 0) (v := .pointer (some ⟨g, 0, none⟩)) rfl (by kernel_rfl) (by kernel_rfl) (by kernel_rfl) (fun _ _ _ h => h) (.inl ⟨by kernel_rfl, fun w hw => by have hw1 := hw; go_simp⟩) hHeld ?_
  simp only [ly1, ly2, ly3, Act.put, ly5, ly6, ly7]
  refine wpAnyH_take (i := 2) (v := .pointer (some ⟨g, 0, none⟩)) rfl (by kernel_rfl) (by kernel_rfl) (by kernel_rfl) (fun _ _ _ h => h) (.inl ⟨by kernel_rfl, fun w hw => by have hw1 := hw; go_simp⟩) hHeld ?_
  simp only [ly1, ly2, ly3, Act.put, ly5, ly6, ly7]
  refine wpAnyH_take (i := 4) (v := .pointer (some ⟨g, 0, none⟩)) rfl (by kernel_rfl) (by kernel_rfl) (by kernel_rfl) (fun _ _ _ h => h) (.inl ⟨by kernel_rfl, fun w hw => by have hw1 := hw; go_simp⟩) hHeld ?_
  simp only [ly1, ly2, ly3, Act.put, ly5, ly6, ly7]
  refine wpAnyH_take (i := 6) (v := .pointer (some ⟨g, 0, none⟩)) rfl (by kernel_rfl) (by kernel_rfl) (by kernel_rfl) (fun _ _ _ h => h) (.inl ⟨by kernel_rfl, fun w hw => by have hw1 := hw; go_simp⟩) hHeld ?_
  simp only [ly1, ly2, ly3, Act.put, ly5, ly6, ly7]
  refine wpAnyH_take (i := 8) (v := .pointer (some ⟨g, 0, none⟩)) rfl (by kernel_rfl) (by kernel_rfl) (by kernel_rfl) (fun _ _ _ h => h) (.inl ⟨by kernel_rfl, fun w hw => by have hw1 := hw; go_simp⟩) hHeld ?_
  simp only [ly1, ly2, ly3, Act.put, ly5, ly6, ly7]
  refine wpAnyH_take (i := 10) (v := .pointer (some ⟨g, 0, none⟩)) rfl (by kernel_rfl) (by kernel_rfl) (by kernel_rfl) (fun _ _ _ h => h) (.inl ⟨by kernel_rfl, fun w hw => by have hw1 := hw; go_simp⟩) hHeld ?_
  simp only [ly1, ly2, ly3, Act.put, ly5, ly6, ly7]
  refine wpAnyH_ready (rs := [1]) (by kernel_rfl) (by simp) (AllReadyH.cons rfl (fun K hK => ?_) AllReadyH.nil)
  have hK' := hid hK
  clear hK
  rw [if_pos (by kernel_rfl)]
  simp only [ly1, ly2, ly3]
  go_simp
  refine (n1.out _ hp0.out).mono ?_
  rintro e w1 ⟨rfl, h1, h2⟩
  have c1 := cl.out _ _ _ h1
  have hp1 := hid h1
  have hb1 := hid (hb0.out.trans h2)
  clear h1 h2
  refine hK'.out _ _ (by exact c1) (fun hHeld => ?_)
  clear hK' K
  refine wpAnyH_ready (rs := [3]) (by kernel_rfl) (by simp) (AllReadyH.cons rfl (fun K hK => ?_) AllReadyH.nil)
  have hK' := hid hK
  clear hK
  rw [if_pos (by kernel_rfl)]
  simp only [ly1, ly2, ly3]
  go_simp
  refine (n2.out _ hp1.out).mono ?_
  rintro e w2 ⟨rfl, h1, h2⟩
  have c2 := cl.out _ _ _ h1
  have hp2 := hid h1
  have hb2 := hid (hb1.out.trans h2)
  clear h1 h2
  refine hK'.out _ _ (by exact c2) (fun hHeld => ?_)
  clear hK' K
  refine wpAnyH_ready (rs := [5]) (by kernel_rfl) (by simp) (AllReadyH.cons rfl (fun K hK => ?_) AllReadyH.nil)
  have hK' := hid hK
  clear hK
  rw [if_pos (by kernel_rfl)]
  simp only [ly1, ly2, ly3]
  go_simp
  refine (n3.out _ hp2.out).mono ?_
  rintro e w3 ⟨rfl, h1, h2⟩
  have c3 := cl.out _ _ _ h1
  have hp3 := hid h1
  have hb3 := hid (hb2.out.trans h2)
  clear h1 h2
  refine hK'.out _ _ (by exact c3) (fun hHeld => ?_)
  clear hK' K
  refine wpAnyH_ready (rs := [7]) (by kernel_rfl) (by simp) (AllReadyH.cons rfl (fun K hK => ?_) AllReadyH.nil)
  have hK' := hid hK
  clear hK
  rw [if_pos (by kernel_rfl)]
  simp only [ly1, ly2, ly3]
  go_simp
  refine (n4.out _ hp3.out).mono ?_
  rintro e w4 ⟨rfl, h1, h2⟩
  have c4 := cl.out _ _ _ h1
  have hp4 := hid h1
  have hb4 := hid (hb3.out.trans h2)
  clear h1 h2
  refine hK'.out _ _ (by exact c4) (fun hHeld => ?_)
  clear hK' K
  refine wpAnyH_ready (rs := [9]) (by kernel_rfl) (by simp) (AllReadyH.cons rfl (fun K hK => ?_) AllReadyH.nil)
  have hK' := hid hK
  clear hK
  rw [if_pos (by kernel_rfl)]
  simp only [ly1, ly2, ly3]
  go_simp
  refine (n5.out _ hp4.out).mono ?_
  rintro e w5 ⟨rfl, h1, h2⟩
  have c5 := cl.out _ _ _ h1
  have hp5 := hid h1
  have hb5 := hid (hb4.out.trans h2)
  clear h1 h2
  refine hK'.out _ _ (by exact c5) (fun hHeld => ?_)
  clear hK' K
  refine wpAnyH_ready (rs := [11]) (by kernel_rfl) (by simp) (AllReadyH.cons rfl (fun K hK => ?_) AllReadyH.nil)
  have hK' := hid hK
  clear hK
  rw [if_pos (by kernel_rfl)]
  simp only [ly1, ly2, ly3]
  go_simp
  refine (n6.out _ hp5.out).mono ?_
  rintro e w6 ⟨rfl, h1, h2⟩
  have c6 := cl.out _ _ _ h1
  have hp6 := hid h1
  have hb6 := hid (hb5.out.trans h2)
  clear h1 h2
  refine hK'.out _ _ (by exact c6) (fun hHeld => ?_)
  clear hK' K
  refine wpAnyH_take (i := 12) (v := .agg x.cells.toArray) rfl (by kernel_rfl) (by kernel_rfl) (by kernel_rfl) (fun _ _ _ h => h) (.inl ⟨by kernel_rfl, fun w _ => by rw [hbuild'.out]; have hys := hYs.out; generalize hcells y = Y at hys ⊢; go_simp; rw [place_at _ _ _ _ hys (by simp)]; simp [put, hys]⟩) hHeld ?_
  simp only [ly1, ly2, ly3, Act.put, ly5, ly6, ly7]
  refine wpAnyH_ready (rs := [13]) (by kernel_rfl) (by simp) (AllReadyH.cons rfl (fun K hK => ?_) AllReadyH.nil)
  have hK' := hid hK
  clear hK
  rw [if_pos (by kernel_rfl)]
  simp only [ly1, ly2, ly3]
  obtain ⟨V, hV1, hV2, hV3, hV4, hV5⟩ := GetSt.putIno x hfx'.out hp6.out hlt.out hBw.out
  have hV2' := hid hV2
  have hV3' := hid hV3
  have hV4' := hid (hb6.out.trans hV4)
  have cV := cv.out _ _ _ hV3
  refine wp_store_mid _ _ _ rfl w.heap.size 0 x.cells.toArray rfl rfl (by exact hV5) (by exact hiS) (by exact hall) ?_
  rw [hV1]
  clear hV1 hV2 hV3 hV4 hV5
  refine hK'.out _ _ (by exact cV) (fun hHeld => ?_)
  clear hK' K
  refine wpAnyH_done (by kernel_rfl) ?_ _
  go_wp2_with fail
  exact bodyPost_ret (results_cell_row rfl _ _ w.heap.size 78 x.cells.toArray (0, 0) _ rfl hV2'.out Try.underlying78 rfl (by exact hiX)) rfl ⟨rfl, hfx'.out, hV3'.out, hV4'.out⟩

end Go.Proofs.Ytapegklffglnoaa
