/- Layer 14: a table's inodes written. -/
import Derived.Test.YtapegklffglnoaaItB
namespace Go.Proofs.Ytapegklffglnoaa
open Go.RowKit

/-- The bytes of inodes behind s. -/
def tabFrom (s : ByteArray) (xs : List Ino) : ByteArray := xs.foldl (fun s x => s ++ x.bytes) s
theorem tabFrom_next {s : ByteArray} {xs : List Ino} {k : Nat} {x : Ino} (h : xs[k]? = some x) : tabFrom s (xs.take (k + 1)) = tabFrom s (xs.take k) ++ x.bytes := by
  rw [List.take_add_one, h]
  simp [tabFrom]
theorem tabFrom_size {xs : List Ino} : ∀ {s : ByteArray}, (∀ x ∈ xs, x.fine) → (tabFrom s xs).size = s.size + 38 * xs.length := by
  induction xs with
  | nil => intro s _; rfl
  | cons x xs ih =>
    intro s h
    show (tabFrom (s ++ x.bytes) xs).size = _
    rw [ih fun y hy => h y (List.mem_cons_of_mem _ hy), ByteArray.size_append, Ino.bytes_size (h x (List.mem_cons_self ..)), List.length_cons]
    omega

set_option maxRecDepth 100000 in
set_option maxHeartbeats 4000000 in
theorem listIno_any (A : Option Addr) (n c : Nat) (xs : List Ino) (B g h b : Nat) (s : ByteArray) (ext : Exts) (w : World) (hp : PutSt w B g h s ext) (mb : (b, 84, [Value.pointer (some ⟨g, 0, none⟩)]) ∈ ext)
    (hxs : Inos w B A n xs) (hall : ∀ x ∈ xs, x.may = true) (hn : n ≤ 255) (hsz : s.size + 1 + 38 * n ≤ 65536) :
    Calls Try.prog 79 #[.pointer (some ⟨g, 0, none⟩), .int .i64 1, .slice A n c, .func (.func 80) #[] #[.pointer (some ⟨b, 0, none⟩)]] w
      fun e w' => e = .returned (.tuple #[]) ∧ PutSt w' B g h (tabFrom (s ++ be 1 n) xs) ext ∧ Below B w w' := by
  have hN := cNum_any (n : Int) 1 (fits1 (by omega) (by omega)) B g h s ext w hp (by show s.size + 1 ≤ 65536; omega)
  obtain ⟨s0, hs0⟩ : ∃ s0, s ++ be 1 n = s0 := ⟨_, rfl⟩
  rw [show be (1 : Int).toNat (n : Int).toNat = be 1 n from rfl, hs0] at hN
  rw [hs0]
  have hz0 : s0.size = s.size + 1 := by rw [← hs0, ByteArray.size_append, be_size]
  have hlen := hxs.1
  have hfine := hid hxs.2.1
  have hput := hid (fun (x : Ino) (hx : x.fine) (hm : x.may = true) (s' : ByteArray) (W : World) (k : PutSt W B g h s' ext) (hz : s'.size + 38 ≤ 65536) => putIno_any x hx hm B g h b s' ext W k mb hz)
  have hN' := hid hN
  have h' := hid hxs
  have hall' := hid hall
  have hBw := hid hp.size
  have hsz' := hid hsz
  have hz0' := hid hz0
  clear hp hN hxs hall mb hs0 hz0 hsz
  go_enter Try.func79, Try.ntmps79
  go_wp2_with fail
  refine hN'.out.mono ?_
  rintro e w1 ⟨rfl, h1, h2⟩
  have h1' := hid h1
  have h2' := hid h2
  clear h1 h2
  go_wp2_with fail
  go_loopw [17] (fun i wr => ∃ k : Nat, k ≤ n ∧ i = .int .i64 (k : Int) ∧ Below B w wr ∧ PutSt wr B g h (tabFrom s0 (xs.take k)) ext) (fun i _ => n - (intOf i).toNat)
  case atStart => exact ⟨0, Nat.zero_le _, rfl, h2'.out, h1'.out⟩
  case round =>
    obtain ⟨k, hk, rfl, hBr, hpr⟩ := hrel
    have hBr' := hid hBr
    by_cases hlt : k < n
    · obtain ⟨p, a, hpA, hpB, ha, hfa, hca⟩ := (h'.out.below hBr).get (k := k) hlt
      subst hpA
      have hlt' : (k : Int) < (n : Int) := by omega
      have hi1 : (Try.prog.info? 78).map (·.size) = some a.cells.length := by rw [Ino.len hfa]; exact Try.infoIno
      have hca' := hid hca
      have ha' := hid ha
      have hpr' := hid hpr
      clear hBr hca ha hpr
      have hth := ino_there wr hfa
      have hsz := ino_size hfa
      have hone := a.one
      go_wp2_with (first
        | ((with_reducible refine at_slot (some 20) ?_); refine wpList_load_any rfl _ _ rfl _ rfl _ _ (by exact hca'.out) Try.underlying78 rfl hi1 ?_)
        | ((with_reducible refine at_slot (some 9) ?_); refine wpList_run rfl (.pointer (some ⟨wr.heap.size, 0, none⟩)) (wr.alloc (.cells z37 78)) (by kernel_rfl) ?_)
        | ((with_reducible refine at_slot none ?_); refine wpList_store_mid rfl 78 (.tmp 9) (.tmp 20) rfl wr.heap.size 0 a.cells.toArray rfl rfl (by exact hth) (by exact hsz) (by exact hone) ?_; obtain ⟨W1, hW1⟩ : ∃ W1, (wr.alloc (.cells z37 78)).setCells wr.heap.size 0 a.cells = W1 := ⟨_, rfl⟩; obtain ⟨hv, hb1⟩ := ino_var hfa hW1; rw [hW1]; have hvr := holds_range hv; have hb1' := hid hb1; have hp1 := hpr'.out.keep hb1; have hgood := hp1.good; have hp1' := hid hp1; clear hW1 hv hb1 hp1)
        | ((with_reducible refine at_slot (some 26) ?_); refine wpList_load_mid rfl 78 (.tmp 9) rfl wr.heap.size 0 rfl a.cells _ (by exact hvr) Try.underlying78 rfl (by exact hi1) ?_)
        | fail)
      have hmem : a ∈ xs := List.mem_of_getElem? ha'.out
      have hsk : (tabFrom s0 (xs.take k)).size + 38 ≤ 65536 := by
        rw [tabFrom_size fun x hx => hfine.out x (List.mem_of_mem_take hx), List.length_take, hz0'.out]
        have := hsz'.out
        omega
      have hc := hput.out a hfa (hall'.out a hmem) _ W1 hp1'.out hsk
      rw [← tabFrom_next ha'.out] at hc
      refine hc.mono ?_
      rintro e w2 ⟨rfl, h1, h2⟩
      have hp2 := hid h1
      have hb2 := hid ((hBr'.out.trans (hb1'.out.mono (Nat.le_trans hBw.out hBr'.out.size))).trans h2)
      clear h1 h2 hc hsk hmem
      go_wp2_with fail
      go_roundw
      case rel => exact ⟨k + 1, by omega, by go_num, hb2.out, hp2.out⟩
      case measure => simp [intOf]; omega
    · have hlt' : ¬ (k : Int) < (n : Int) := by omega
      have e1 : k = n := by omega
      rw [e1, ← hlen, List.take_length] at hpr
      have hpr' := hid hpr
      clear hpr hBr e1
      go_wp2_with fail
      go_end0
      exact ⟨rfl, hpr'.out, hBr'.out⟩

end Go.Proofs.Ytapegklffglnoaa
