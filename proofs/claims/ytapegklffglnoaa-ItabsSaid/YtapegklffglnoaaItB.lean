/- Layer 14: an inode written. -/
import Derived.Test.YtapegklffglnoaaItA
import Derived.Test.YtapegklffglnoaaCodY
namespace Go.Proofs.Ytapegklffglnoaa
open Go.RowKit
open Go.Lib (strCells strCells_length strCells_oneCell)

/-- An inode's bytes. -/
def Ino.bytes (i : Ino) : ByteArray := be 1 i.num.toNat ++ be 1 i.kind.toNat ++ be 1 i.mode.toNat ++ be 1 i.links.toNat ++ be 2 i.size.toNat ++ i.root
theorem Ino.bytes_size {i : Ino} (h : i.fine) : i.bytes.size = 38 := by
  unfold Ino.bytes
  simp only [ByteArray.size_append, be_size]
  rw [show i.root.size = 32 from h]
theorem fits1 {x : Int} (h : 0 ≤ x) (h2 : x < 256) : fitsB x 1 = true := by
  unfold fitsB
  rw [show isSizeB 1 = true from rfl, Bool.true_and]
  exact decide_eq_true ⟨h, by simpa using h2⟩
theorem fits2 {x : Int} (h : 0 ≤ x) (h2 : x < 65536) : fitsB x 2 = true := by
  unfold fitsB
  rw [show isSizeB 2 = true from rfl, Bool.true_and]
  exact decide_eq_true ⟨h, by simpa using h2⟩
theorem Ino.fits {i : Ino} (h : i.may = true) : fitsB i.num 1 = true ∧ fitsB i.kind 1 = true ∧ fitsB i.mode 1 = true ∧ fitsB i.links 1 = true ∧ fitsB i.size 2 = true := by
  unfold Ino.may mayB at h
  have h := of_decide_eq_true h
  exact ⟨fits1 (by omega) (by omega), fits1 (by omega) (by omega), fits1 (by omega) (by omega), fits1 (by omega) (by omega), fits2 (by omega) (by omega)⟩
theorem Ino.root_at {i : Ino} (h : i.fine) {w : World} {q : Nat} {t : TypeId} (hh : Holds w q t i.cells) : w.rangeAt q 5 (strCells i.root) := by
  refine hh.range 5 _ fun j hj => ?_
  unfold Ino.cells
  rw [List.getElem?_append_right (by simp)]
  simp

set_option maxRecDepth 100000 in
set_option maxHeartbeats 4000000 in
theorem putIno_any (x : Ino) (hx : x.fine) (hm : x.may = true) (B g h b : Nat) (s : ByteArray) (ext : Exts) (w : World) (hp : PutSt w B g h s ext) (mb : (b, 84, [Value.pointer (some ⟨g, 0, none⟩)]) ∈ ext) (hsz : s.size + 38 ≤ 65536) :
    Calls Try.prog 80 #[.agg x.cells.toArray, .pointer (some ⟨b, 0, none⟩)] w fun e w' => e = .returned (.tuple #[]) ∧ PutSt w' B g h (s ++ x.bytes) ext ∧ Below B w w' := by
  obtain ⟨f1, f2, f3, f4, f5⟩ := x.fits hm
  obtain ⟨q, hq⟩ : ∃ q, w.heap.size = q := ⟨_, rfl⟩
  obtain ⟨C, hC⟩ : ∃ C, x.cells.toArray = C := ⟨_, rfl⟩
  have hCl : x.cells = C.toList := by rw [← hC]
  have hp0 : PutSt (w.alloc (.cells C 78)) B g h s ((q, 78, x.cells) :: ext) := by
    have := hp.with C 78
    rw [hq, ← hCl] at this
    exact this
  have hb0 : Below B w (w.alloc (.cells C 78)) := (Below.refl _ _).alloc hp.size _
  have fin : ∀ {W' : World} {s' : ByteArray}, PutSt W' B g h s' ((q, 78, x.cells) :: ext) → PutSt W' B g h s' ext := fun k => k.sub fun y hy => List.mem_cons_of_mem _ hy
  have cel : ∀ {W' : World} {s' : ByteArray}, PutSt W' B g h s' ((q, 78, x.cells) :: ext) → W'.cell? ⟨b, 0, none⟩ = some (.pointer (some ⟨g, 0, none⟩)) ∧ W'.cell? ⟨q, 0, none⟩ = some (.int .i64 x.num) ∧ W'.cell? ⟨q, 1, none⟩ = some (.int .i64 x.kind) ∧ W'.cell? ⟨q, 2, none⟩ = some (.int .i64 x.mode) ∧ W'.cell? ⟨q, 3, none⟩ = some (.int .i64 x.links) ∧ W'.cell? ⟨q, 4, none⟩ = some (.int .i64 x.size) ∧ W'.rangeAt q 5 (strCells x.root) := fun {W' s'} k => by
    have k1 := (k.held (List.mem_cons_of_mem _ mb)).cell 0
    have kx := k.held (List.mem_cons_self ..)
    refine ⟨by simpa using k1, ?_, ?_, ?_, ?_, ?_, x.root_at hx kx⟩ <;> rw [kx.cell] <;> rfl
  have cl := hid (fun (W' : World) (s' : ByteArray) => @cel W' s')
  have fn := hid (fun (W' : World) (s' : ByteArray) => @fin W' s')
  have hroot : HashOf (strCells x.root).toArray x.root := ⟨rfl, hx⟩
  have hih : (Try.prog.info? 76).map (·.size) = some (strCells x.root).length := by rw [strCells_length, show x.root.size = 32 from hx]; exact Try.infoHash
  obtain ⟨s1, hs1⟩ : ∃ s1, s ++ be (1 : Int).toNat x.num.toNat = s1 := ⟨_, rfl⟩
  obtain ⟨s2, hs2⟩ : ∃ s2, s1 ++ be (1 : Int).toNat x.kind.toNat = s2 := ⟨_, rfl⟩
  obtain ⟨s3, hs3⟩ : ∃ s3, s2 ++ be (1 : Int).toNat x.mode.toNat = s3 := ⟨_, rfl⟩
  obtain ⟨s4, hs4⟩ : ∃ s4, s3 ++ be (1 : Int).toNat x.links.toNat = s4 := ⟨_, rfl⟩
  obtain ⟨s5, hs5⟩ : ∃ s5, s4 ++ be (2 : Int).toNat x.size.toNat = s5 := ⟨_, rfl⟩
  have z1 : s1.size = s.size + 1 := by rw [← hs1, ByteArray.size_append, be_size]; rfl
  have z2 : s2.size = s1.size + 1 := by rw [← hs2, ByteArray.size_append, be_size]; rfl
  have z3 : s3.size = s2.size + 1 := by rw [← hs3, ByteArray.size_append, be_size]; rfl
  have z4 : s4.size = s3.size + 1 := by rw [← hs4, ByteArray.size_append, be_size]; rfl
  have z5 : s5.size = s4.size + 2 := by rw [← hs5, ByteArray.size_append, be_size]; rfl
  have hend := hid (show s5 ++ x.root = s ++ x.bytes from by
    rw [← hs5, ← hs4, ← hs3, ← hs2, ← hs1]
    unfold Ino.bytes
    simp only [ByteArray.append_assoc]
    rfl)
  have n1 := hid (fun W' (k : PutSt W' B g h s ((q, 78, x.cells) :: ext)) => cNum_any x.num 1 f1 B g h s _ W' k (by show s.size + 1 ≤ 65536; omega))
  rw [hs1] at n1
  have n2 := hid (fun W' (k : PutSt W' B g h s1 ((q, 78, x.cells) :: ext)) => cNum_any x.kind 1 f2 B g h s1 _ W' k (by show s1.size + 1 ≤ 65536; omega))
  rw [hs2] at n2
  have n3 := hid (fun W' (k : PutSt W' B g h s2 ((q, 78, x.cells) :: ext)) => cNum_any x.mode 1 f3 B g h s2 _ W' k (by show s2.size + 1 ≤ 65536; omega))
  rw [hs3] at n3
  have n4 := hid (fun W' (k : PutSt W' B g h s3 ((q, 78, x.cells) :: ext)) => cNum_any x.links 1 f4 B g h s3 _ W' k (by show s3.size + 1 ≤ 65536; omega))
  rw [hs4] at n4
  have n5 := hid (fun W' (k : PutSt W' B g h s4 ((q, 78, x.cells) :: ext)) => cNum_any x.size 2 f5 B g h s4 _ W' k (by show s4.size + 2 ≤ 65536; omega))
  rw [hs5] at n5
  have n6 := hid (fun W' (k : PutSt W' B g h s5 ((q, 78, x.cells) :: ext)) => cHash_any (strCells x.root).toArray x.root hroot B g h s5 _ W' k (by omega))
  have hp0' := hid hp0
  have hb0' := hid hb0
  obtain ⟨c0, c1, -, -, -, -, -⟩ := cel hp0
  have hq' := hid hq
  clear hx hp hp0 hb0 cel fin f1 f2 f3 f4 f5 hs1 hs2 hs3 hs4 hs5 z1 z2 z3 z4 z5 hm hsz mb hCl
  rw [hC]
  clear hC
  go_enter Try.func80, Try.ntmps80
  go_wp2_with fail
  refine (n1.out _ hp0'.out).mono ?_
  rintro e w1 ⟨rfl, h1, h2⟩
  obtain ⟨c0, -, c1, -, -, -, -⟩ := cl.out _ _ h1
  have p1' := hid h1
  have hb1' := hid (hb0'.out.trans h2)
  clear h1 h2
  go_wp2_with fail
  refine (n2.out _ p1'.out).mono ?_
  rintro e w2 ⟨rfl, h1, h2⟩
  obtain ⟨c0, -, -, c1, -, -, -⟩ := cl.out _ _ h1
  have p2' := hid h1
  have hb2' := hid (hb1'.out.trans h2)
  clear h1 h2
  go_wp2_with fail
  refine (n3.out _ p2'.out).mono ?_
  rintro e w3 ⟨rfl, h1, h2⟩
  obtain ⟨c0, -, -, -, c1, -, -⟩ := cl.out _ _ h1
  have p3' := hid h1
  have hb3' := hid (hb2'.out.trans h2)
  clear h1 h2
  go_wp2_with fail
  refine (n4.out _ p3'.out).mono ?_
  rintro e w4 ⟨rfl, h1, h2⟩
  obtain ⟨c0, -, -, -, -, c1, -⟩ := cl.out _ _ h1
  have p4' := hid h1
  have hb4' := hid (hb3'.out.trans h2)
  clear h1 h2
  go_wp2_with fail
  refine (n5.out _ p4'.out).mono ?_
  rintro e w5 ⟨rfl, h1, h2⟩
  obtain ⟨c0, -, -, -, -, -, c1⟩ := cl.out _ _ h1
  have p5' := hid h1
  have hb5' := hid (hb4'.out.trans h2)
  clear h1 h2
  go_wp2_with (first
    | ((with_reducible refine at_slot (some 25) ?_); refine wpList_load_mid rfl 76 (.tmp 24) rfl q 5 rfl (strCells x.root) _ (by exact c1) Try.underlying76 rfl (by exact hih) ?_)
    | fail)
  refine (n6.out _ p5'.out).mono ?_
  rintro e w6 ⟨rfl, h1, h2⟩
  rw [hend.out] at h1
  have p6' := hid (fn.out _ _ h1)
  have hb6' := hid (hb5'.out.trans h2)
  clear h1 h2
  go_wp2_with fail
  go_end0
  exact ⟨rfl, p6'.out, hb6'.out⟩

end Go.Proofs.Ytapegklffglnoaa
