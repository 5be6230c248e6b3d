/- Plain words on memory: a slice's cells as a list; what a call leaves alone. No function of the program is named here. -/
import Derived.WalkKit
import Derived.WalkSpells
import Derived.WalkLawsBesides

import Derived.Deep.Draws
import Derived.Deep.QuietTactic
import Derived.BigQuiet
import Derived.StillTailTactics
import Derived.Deep.RegionHeld3
import Derived.Deep.AppendLies
import Derived.Laws.Rows
import Derived.Maps.AppendAt
namespace Go.Proofs.YtmgaegaibglnhaaGreat
open Go.RowKit

/-! Short names for the rules that lay a list of operations, a frame out. -/
theorem ly1 {α : Type} (l : List α) (i : Nat) (h : i < l.toArray.size) : l.toArray[i] = l[i]'h := rfl
theorem ly2 {α : Type} (a : α) (l : List α) (i : Nat) (h : i + 1 < (a :: l).length) : (a :: l)[i + 1] = l[i]'(Nat.lt_of_succ_lt_succ h) := rfl
theorem ly3 {α : Type} (a : α) (l : List α) (h : 0 < (a :: l).length) : (a :: l)[0] = a := rfl
theorem ly5 {α : Type} (l : List α) (i : Nat) (a : α) : l.toArray.setIfInBounds i a = (l.set i a).toArray := List.setIfInBounds_toArray ..
theorem ly6 {α : Type} (x a : α) (l : List α) : (x :: l).set 0 a = a :: l := rfl
theorem ly7 {α : Type} (x a : α) (l : List α) (n : Nat) : (x :: l).set (n + 1) a = x :: l.set n a := rfl

/-- The slice that begins at A has n elements of sz cells each: these cells; they lie below block B. -/
def At (w : World) (B sz : Nat) (A : Option Addr) (n : Nat) (cs : List Value) : Prop :=
  cs.length = n * sz ∧ (n = 0 ∨ ∃ p : Addr, A = some p ∧ p.block < B ∧ ∀ j (h : j < cs.length), w.cell? (p.add j) = some cs[j])

theorem hid {p : Prop} (h : p) : Hid p := h

theorem add_block (p : Addr) (n : Nat) : (p.add n).block = p.block := by
  unfold Addr.add
  split <;> rfl

theorem add_add (p : Addr) (i j : Nat) : (p.add i).add j = p.add (i + j) := by
  unfold Addr.add
  by_cases hi : i = 0 <;> by_cases hj : j = 0 <;> simp [hi, hj, Nat.add_assoc]

section
variable {w w' : World} {B B' sz n : Nat} {A : Option Addr} {cs : List Value}

theorem At.zero : At w B sz A 0 [] := ⟨by simp, .inl rfl⟩

theorem At.len (h : At w B sz A n cs) : cs.length = n * sz := h.1

theorem At.get (h : At w B 1 A n cs) {k : Nat} (hk : k < n) : ∃ p v, A = some p ∧ p.block < B ∧ cs[k]? = some v ∧ w.cell? (p.add k) = some v := by
  obtain ⟨hl, h0 | ⟨p, hA, hB, hc⟩⟩ := h
  · omega
  · have hk' : k < cs.length := by omega
    exact ⟨p, cs[k], hA, hB, List.getElem?_eq_getElem hk', hc k hk'⟩

theorem At.keep (h : At w B sz A n cs) (hk : ∀ p : Addr, p.block < B → w'.cell? p = w.cell? p) : At w' B sz A n cs := by
  obtain ⟨hl, h0 | ⟨p, hA, hB, hc⟩⟩ := h
  · exact ⟨hl, .inl h0⟩
  · exact ⟨hl, .inr ⟨p, hA, hB, fun j hj => (hk _ (by rw [add_block]; exact hB)).trans (hc j hj)⟩⟩

theorem At.more (h : At w B sz A n cs) (hB : B ≤ B') : At w B' sz A n cs := by
  obtain ⟨hl, h0 | ⟨p, hA, hb, hc⟩⟩ := h
  · exact ⟨hl, .inl h0⟩
  · exact ⟨hl, .inr ⟨p, hA, Nat.lt_of_lt_of_le hb hB, hc⟩⟩

theorem At.below (h : At w B sz A n cs) (hb : Below B w w') : At w' B sz A n cs := h.keep fun _ hp => hb.cell hp

theorem At.drewN (h : At w B sz A n cs) (k : Nat) : At (w.drewN k) B sz A n cs := h

theorem At.alloc (h : At w B sz A n cs) (hB : B ≤ w.heap.size) (o : Obj) : At (w.alloc o) B sz A n cs :=
  h.below ((Below.refl _ _).alloc hB o)
end

theorem below_drewN {B : Nat} {a w : World} (h : Below B a w) (n : Nat) : Below B a (w.drewN n) := ⟨h.os, h.tape, h.output, h.size, h.block⟩

theorem below_grown {B sz n : Nat} {e : TypeId} {v : Value} {cs : List Value} {w0 w w1 w2 : World} (h : Below B w w1) (hg : w1.grownBy w2 v.ownBlock) (hB : B ≤ w1.heap.size) (hown : w0.ownsRow B e sz v n cs) : Below B w w2 :=
  h.grown hg hB fun g hgg => (hown.lt g hgg).1

section
variable {P : Program} {ops : Array Oper} {o : Oper} {a : Act} {w : World} {Q : Exit → Act → World → Prop}

/-- append of ONE element of one cell, which lies alone in a block that was just made, onto a row of the call's own. -/
theorem wp_push {K : Act → World → Prop} (s x : Operand) (t e : TypeId) (ho : o.op = .call { callee := .builtin .append, args := #[s, x], argTypes := #[t, t] })
    (B : Nat) (i : TypeInfo) (z : Value) (bytes : Nat) (ht : P.underlying t = some (.slice e)) (hi : P.info? e = some i) (hz : i.zero = some z) (hsize : i.size = 1) (hby : i.bytes = bytes) (hzs : z.cells.size = 1) (hb : bytes ≤ 64)
    (A : Option Addr) (n c : Nat) (cs : List Value) (G : Nat) (u : Value) (hs : a.eval s = .slice A n c) (hx : a.eval x = .slice (some ⟨G, 0, none⟩) 1 1) (hu : u.oneCell' = true) (hn : n ≤ 1000000000) (hown : w.ownsRow B e 1 (.slice A n c) n cs)
    (hcell : w.cell? ⟨G, 0, none⟩ = some u) (hB : B ≤ w.heap.size)
    (h : ∀ A' c' w', w'.ownsRow B e 1 (.slice A' (n + 1) c') (n + 1) (cs ++ [u]) → Below B w w' → w.grownBy w' (Value.slice A n c).ownBlock → K (a.put o.dst (.slice A' (n + 1) c')) w') : o.wp P a w K Q := by
  refine wp_append_lies w s x t ho B e i z 1 bytes ht hi hz hsize hby hzs (by decide) (.slice A n c) n cs hs hown ⟨G, 0, none⟩ 1 1 [u] hx rfl ?_ ?_ (by decide) (by unfold maxLen; omega) ?_ hB _ rfl ?_
  · intro j v hv
    match j, hv with
    | 0, hv =>
      obtain rfl : u = v := by simpa using hv
      simpa [Addr.add] using hcell
  · intro v hv
    obtain rfl : v = u := by simpa using hv
    exact hu
  · have : (n + 1) * bytes ≤ (n + 1) * 64 := Nat.mul_le_mul_left _ hb
    omega
  · intro g cap w' h1 h2 _ _
    exact h _ _ w' h1 (below_grown (Below.refl _ _) h2 hB hown) h2

theorem wpList_push {rest : List Oper} (hgd : o.guard = none) (s x : Operand) (t e : TypeId) (ho : o.op = .call { callee := .builtin .append, args := #[s, x], argTypes := #[t, t] })
    (B : Nat) (i : TypeInfo) (z : Value) (bytes : Nat) (ht : P.underlying t = some (.slice e)) (hi : P.info? e = some i) (hz : i.zero = some z) (hsize : i.size = 1) (hby : i.bytes = bytes) (hzs : z.cells.size = 1) (hb : bytes ≤ 64)
    (A : Option Addr) (n c : Nat) (cs : List Value) (G : Nat) (u : Value) (hs : a.eval s = .slice A n c) (hx : a.eval x = .slice (some ⟨G, 0, none⟩) 1 1) (hu : u.oneCell' = true) (hn : n ≤ 1000000000) (hown : w.ownsRow B e 1 (.slice A n c) n cs)
    (hcell : w.cell? ⟨G, 0, none⟩ = some u) (hB : B ≤ w.heap.size)
    (h : ∀ A' c' w', w'.ownsRow B e 1 (.slice A' (n + 1) c') (n + 1) (cs ++ [u]) → Below B w w' → w.grownBy w' (Value.slice A n c).ownBlock → wpList P ops Q rest (a.put o.dst (.slice A' (n + 1) c')) w') : wpList P ops Q (o :: rest) a w :=
  wpList_plain hgd fun _ hK => wp_push s x t e ho B i z bytes ht hi hz hsize hby hzs hb A n c cs G u hs hx hu hn hown hcell hB fun A' c' w' h1 h2 h3 => hK _ _ (h A' c' w' h1 h2 h3)

theorem step_push {K : Act → World → Prop} {E : Prop} (hgd : o.guard = none) (s x : Operand) (t e : TypeId) (ho : o.op = .call { callee := .builtin .append, args := #[s, x], argTypes := #[t, t] })
    (B : Nat) (i : TypeInfo) (z : Value) (bytes : Nat) (ht : P.underlying t = some (.slice e)) (hi : P.info? e = some i) (hz : i.zero = some z) (hsize : i.size = 1) (hby : i.bytes = bytes) (hzs : z.cells.size = 1) (hb : bytes ≤ 64)
    (A : Option Addr) (n c : Nat) (cs : List Value) (G : Nat) (u : Value) (hs : a.eval s = .slice A n c) (hx : a.eval x = .slice (some ⟨G, 0, none⟩) 1 1) (hu : u.oneCell' = true) (hn : n ≤ 1000000000) (hown : w.ownsRow B e 1 (.slice A n c) n cs)
    (hcell : w.cell? ⟨G, 0, none⟩ = some u) (hB : B ≤ w.heap.size)
    (h : ∀ A' c' w', w'.ownsRow B e 1 (.slice A' (n + 1) c') (n + 1) (cs ++ [u]) → Below B w w' → w.grownBy w' (Value.slice A n c).ownBlock → K (a.put o.dst (.slice A' (n + 1) c')) w') :
    if Region.wanted o (yielded ops a.tmps) = true then Oper.wp P o a w K Q else E := by
  have hw : Region.wanted o (yielded ops a.tmps) = true := by simp [Region.wanted, hgd]
  rw [if_pos hw]
  exact wp_push s x t e ho B i z bytes ht hi hz hsize hby hzs hb A n c cs G u hs hx hu hn hown hcell hB h
end

section
variable {P : Program} {ops : Array Oper} {o : Oper} {a : Act} {w : World} {Q : Exit → Act → World → Prop}

theorem own_form {w : World} {B sz n : Nat} {e : TypeId} {v : Value} {cs : List Value} (h : w.ownsRow B e sz v n cs) : ∃ A c, v = .slice A n c := by
  rcases h.2 with ⟨rfl, rfl⟩ | ⟨g, cap, _, rfl, _⟩
  · exact ⟨_, _, rfl⟩
  · exact ⟨_, _, rfl⟩

theorem own_cap {w : World} {B sz n m c : Nat} {A : Option Addr} {e : TypeId} {cs : List Value} (h : w.ownsRow B e sz (.slice A m c) n cs) : n ≤ c := by
  rcases h.2 with ⟨hv, h0⟩ | ⟨g, cap, _, hv, _, _, hcap, _⟩
  · omega
  · injection hv with _ _ h2
    omega

/-- append of a slice that reads as these cells (nil, empty or not) onto a row of the call's own. -/
theorem wp_appends {K : Act → World → Prop} (s x : Operand) (t e : TypeId) (ho : o.op = .call { callee := .builtin .append, args := #[s, x], argTypes := #[t, t] })
    (B : Nat) (i : TypeInfo) (z : Value) (sz bytes : Nat) (ht : P.underlying t = some (.slice e)) (hi : P.info? e = some i) (hz : i.zero = some z) (hsize : i.size = sz) (hby : i.bytes = bytes) (hzs : z.cells.size = sz) (hsz : 0 < sz)
    (A : Option Addr) (n c : Nat) (cs : List Value) (B' : Nat) (A' : Option Addr) (m c' : Nat) (news : List Value) (hs : a.eval s = .slice A n c) (hx : a.eval x = .slice A' m c') (hnil : A' = none → c' = 0) (hu : ∀ u ∈ news, u.oneCell' = true)
    (h63 : n + m ≤ 1000000000000000) (hbytes : (n + m) * bytes ≤ 140737488355328) (hown : w.ownsRow B e sz (.slice A n c) n cs) (hnews : At w B' sz A' m news) (hB : B ≤ w.heap.size)
    (h : ∀ A2 c2 w', w'.ownsRow B e sz (.slice A2 (n + m) c2) (n + m) (cs ++ news) → Below B w w' → w.grownBy w' (Value.slice A n c).ownBlock → K (a.put o.dst (.slice A2 (n + m) c2)) w') : o.wp P a w K Q := by
  have hmax : n + m ≤ maxLen := by unfold maxLen; omega
  have key : ∃ v' w', (Builtin.append_ #[t, t] o.type #[.slice A n c, .slice A' m c']).run P w = .ok v' w' ∧ w'.ownsRow B e sz v' (n + m) (cs ++ news) ∧ w.grownBy w' (Value.slice A n c).ownBlock := by
    cases A' with
    | none =>
      obtain rfl := hnil rfl
      obtain ⟨hl, h0 | ⟨p, hp, _⟩⟩ := hnews
      · subst h0
        have hn0 : news = [] := List.eq_nil_of_length_eq_zero (by simpa using hl)
        subst hn0
        exact ⟨_, w, run_append_owned_none w B t o.type e i sz ht hi _ n cs hown, by simpa using hown, World.grownBy.refl w _⟩
      · cases hp
    | some p =>
      have hc : ∀ j u, news[j]? = some u → w.cell? (p.add j) = some u := by
        intro j u hu'
        obtain ⟨hl, h0 | ⟨p', hp', _, hcell⟩⟩ := hnews
        · subst h0
          have hn0 : news = [] := List.eq_nil_of_length_eq_zero (by simpa using hl)
          subst hn0
          simp at hu'
        · obtain rfl : p = p' := by injection hp'
          obtain ⟨hj, hju⟩ := List.getElem?_eq_some_iff.1 hu'
          rw [hcell j hj, hju]
      obtain ⟨v', w', h1, h2, h3, _⟩ := run_append_own_at (P := P) w B t o.type e i z sz bytes ht hi hz hsize hby hzs hsz _ n cs hown p m c' news hnews.1 hc hu hmax hbytes hB
      exact ⟨v', w', h1, h2, h3⟩
  obtain ⟨v', w', hrun, h2, h3⟩ := key
  obtain ⟨A2, c2, rfl⟩ := own_form h2
  unfold Oper.wp execOp
  simp only [ho, resolve, invoke, builtin, Sem.run_bind, Sem.run_pure, Result.andThen_ok, List.map_toArray, List.map_cons, List.map_nil, hs, hx, hrun]
  exact h _ _ w' h2 (below_grown (Below.refl _ _) h3 hB hown) h3

theorem wpList_appends {rest : List Oper} (hgd : o.guard = none) (s x : Operand) (t e : TypeId) (ho : o.op = .call { callee := .builtin .append, args := #[s, x], argTypes := #[t, t] })
    (B : Nat) (i : TypeInfo) (z : Value) (sz bytes : Nat) (ht : P.underlying t = some (.slice e)) (hi : P.info? e = some i) (hz : i.zero = some z) (hsize : i.size = sz) (hby : i.bytes = bytes) (hzs : z.cells.size = sz) (hsz : 0 < sz)
    (A : Option Addr) (n c : Nat) (cs : List Value) (B' : Nat) (A' : Option Addr) (m c' : Nat) (news : List Value) (hs : a.eval s = .slice A n c) (hx : a.eval x = .slice A' m c') (hnil : A' = none → c' = 0) (hu : ∀ u ∈ news, u.oneCell' = true)
    (h63 : n + m ≤ 1000000000000000) (hbytes : (n + m) * bytes ≤ 140737488355328) (hown : w.ownsRow B e sz (.slice A n c) n cs) (hnews : At w B' sz A' m news) (hB : B ≤ w.heap.size)
    (h : ∀ A2 c2 w', w'.ownsRow B e sz (.slice A2 (n + m) c2) (n + m) (cs ++ news) → Below B w w' → w.grownBy w' (Value.slice A n c).ownBlock → wpList P ops Q rest (a.put o.dst (.slice A2 (n + m) c2)) w') : wpList P ops Q (o :: rest) a w :=
  wpList_plain hgd fun _ hK => wp_appends s x t e ho B i z sz bytes ht hi hz hsize hby hzs hsz A n c cs B' A' m c' news hs hx hnil hu h63 hbytes hown hnews hB fun A2 c2 w' h1 h2 h3 => hK _ _ (h A2 c2 w' h1 h2 h3)

theorem step_appends {K : Act → World → Prop} {E : Prop} (hgd : o.guard = none) (s x : Operand) (t e : TypeId) (ho : o.op = .call { callee := .builtin .append, args := #[s, x], argTypes := #[t, t] })
    (B : Nat) (i : TypeInfo) (z : Value) (sz bytes : Nat) (ht : P.underlying t = some (.slice e)) (hi : P.info? e = some i) (hz : i.zero = some z) (hsize : i.size = sz) (hby : i.bytes = bytes) (hzs : z.cells.size = sz) (hsz : 0 < sz)
    (A : Option Addr) (n c : Nat) (cs : List Value) (B' : Nat) (A' : Option Addr) (m c' : Nat) (news : List Value) (hs : a.eval s = .slice A n c) (hx : a.eval x = .slice A' m c') (hnil : A' = none → c' = 0) (hu : ∀ u ∈ news, u.oneCell' = true)
    (h63 : n + m ≤ 1000000000000000) (hbytes : (n + m) * bytes ≤ 140737488355328) (hown : w.ownsRow B e sz (.slice A n c) n cs) (hnews : At w B' sz A' m news) (hB : B ≤ w.heap.size)
    (h : ∀ A2 c2 w', w'.ownsRow B e sz (.slice A2 (n + m) c2) (n + m) (cs ++ news) → Below B w w' → w.grownBy w' (Value.slice A n c).ownBlock → K (a.put o.dst (.slice A2 (n + m) c2)) w') :
    if Region.wanted o (yielded ops a.tmps) = true then Oper.wp P o a w K Q else E := by
  have hw : Region.wanted o (yielded ops a.tmps) = true := by simp [Region.wanted, hgd]
  rw [if_pos hw]
  exact wp_appends s x t e ho B i z sz bytes ht hi hz hsize hby hzs hsz A n c cs B' A' m c' news hs hx hnil hu h63 hbytes hown hnews hB h
end

/-- The cells of a list of numbers. -/
def i64s (xs : List Int) : List Value := xs.map (Value.int .i64)

theorem i64s_snoc (xs : List Int) (x : Int) : i64s (xs ++ [x]) = i64s xs ++ [.int .i64 x] := by simp [i64s]

theorem At.of_own {w : World} {base sz n : Nat} {e : TypeId} {A : Option Addr} {c : Nat} {cs : List Value} (h : w.ownsRow base e sz (.slice A n c) n cs) : At w w.heap.size sz A n cs := by
  have hlt := h.lt
  have hcl := fun g => h.cells (g := g)
  obtain ⟨hl, h1⟩ := h
  refine ⟨hl, ?_⟩
  rcases h1 with ⟨_, h0⟩ | ⟨g, cap, cur, hv, hb, hh, hn, hm, hs, ht⟩
  · exact .inl h0
  · obtain ⟨rfl, rfl⟩ : A = some ⟨g, 0, none⟩ ∧ c = cap := by
      injection hv with h1 _ h2
      exact ⟨h1, h2⟩
    exact .inr ⟨_, rfl, (hlt g rfl).2, fun j hj => hcl g rfl j _ (List.getElem?_eq_getElem hj)⟩

theorem Ints.of_own {w : World} {base n : Nat} {e : TypeId} {A : Option Addr} {c : Nat} {xs : List Int} (h : w.ownsRow base e 1 (.slice A n c) n (xs.map (Value.int .i64))) :
    At w w.heap.size 1 A n (xs.map (Value.int .i64)) := At.of_own h

theorem i64s_length (xs : List Int) : (i64s xs).length = xs.length := by simp [i64s]

/-- The slice at A reads as these numbers. -/
def Ints (w : World) (B : Nat) (A : Option Addr) (n : Nat) (xs : List Int) : Prop := At w B 1 A n (i64s xs)

section
variable {w w' : World} {B B' n : Nat} {A : Option Addr} {xs : List Int}

theorem Ints.len (h : Ints w B A n xs) : xs.length = n := by
  have h' := At.len h
  rw [i64s_length] at h'
  omega

theorem Ints.get (h : Ints w B A n xs) {k : Nat} (hk : k < n) : ∃ p, A = some p ∧ p.block < B ∧ w.cell? (p.add k) = some (.int .i64 (xs.getD k 0)) := by
  obtain ⟨p, v, hA, hB, hv, hc⟩ := At.get h hk
  have hl := h.len
  refine ⟨p, hA, hB, ?_⟩
  rw [hc, ← hv]
  have : k < xs.length := by omega
  simp [i64s, List.getElem?_eq_getElem this]

theorem Ints.below (h : Ints w B A n xs) (hb : Below B w w') : Ints w' B A n xs := At.below h hb
theorem Ints.more (h : Ints w B A n xs) (hB : B ≤ B') : Ints w B' A n xs := At.more h hB
theorem Ints.drewN (h : Ints w B A n xs) (k : Nat) : Ints (w.drewN k) B A n xs := h
end

theorem Ints.none_ (w : World) (B : Nat) (A : Option Addr) : Ints w B A 0 [] := ⟨rfl, .inl rfl⟩

/-- A literal that was just made. -/
theorem Ints.new (w : World) (xs : List Int) (n : Nat) (e : TypeId) (cs : Array Value) (h : cs.toList = i64s xs) (hn : xs.length = n) :
    Ints (w.alloc (.cells cs e)) (w.heap.size + 1) (some ⟨w.heap.size, 0, none⟩) n xs := by
  subst hn
  refine ⟨by rw [i64s_length, Nat.mul_one], .inr ⟨_, rfl, Nat.lt_succ_self _, fun j hj => ?_⟩⟩
  have hs : cs[j]? = some (i64s xs)[j] := by
    rw [← Array.getElem?_toList, h]
    exact List.getElem?_eq_getElem hj
  have e0 : (⟨w.heap.size, 0, none⟩ : Addr).add j = ⟨w.heap.size, j, none⟩ := by
    unfold Addr.add
    by_cases h0 : j = 0 <;> simp [h0]
  rw [e0]
  rw [cell_of_row _ w.heap.size j cs e (0, 0) (heap_alloc_new w _), hs]

theorem Ints.alloc {w : World} {B n : Nat} {A : Option Addr} {xs : List Int} (h : Ints w B A n xs) (hB : B ≤ w.heap.size) (o : Obj) : Ints (w.alloc o) B A n xs := At.alloc h hB o

theorem heap_alloc (w : World) (o : Obj) (k : Nat) : (w.alloc o).heap[k]? = if k = w.heap.size then some o else w.heap[k]? := by
  show (w.heap.push o)[k]? = _
  rw [Array.getElem?_push]

theorem heap_at (w : World) (o : Obj) (k : Nat) (h : k = w.heap.size) : (w.alloc o).heap[k]? = some o := by rw [heap_alloc, if_pos h]
theorem heap_up (w : World) (o x : Obj) (k : Nat) (h : w.heap[k]? = some x) : (w.alloc o).heap[k]? = some x := by
  rw [heap_alloc, if_neg, h]
  rintro rfl
  rw [Array.getElem?_eq_none (Nat.le_refl _)] at h
  cases h

theorem alloc_size (w : World) (o : Obj) : (w.alloc o).heap.size = w.heap.size + 1 := by simp

/-- A block that is known whole reads as its numbers. -/
theorem Ints.of_block {w : World} {g : Nat} {e : TypeId} {cs : Array Value} (xs : List Int) {n : Nat} (hb : w.heap[g]? = some (.cells cs e (0, 0))) (h : cs.toList = i64s xs) (hn : xs.length = n) :
    Ints w w.heap.size (some ⟨g, 0, none⟩) n xs := by
  subst hn
  have hg : g < w.heap.size := by
    rcases Nat.lt_or_ge g w.heap.size with h1 | h1
    · exact h1
    · rw [Array.getElem?_eq_none h1] at hb
      cases hb
  refine ⟨by rw [i64s_length, Nat.mul_one], .inr ⟨_, rfl, hg, fun j hj => ?_⟩⟩
  have hs : cs[j]? = some (i64s xs)[j] := by
    rw [← Array.getElem?_toList, h]
    exact List.getElem?_eq_getElem hj
  have e0 : (⟨g, 0, none⟩ : Addr).add j = ⟨g, j, none⟩ := by
    unfold Addr.add
    by_cases h0 : j = 0 <;> simp [h0]
  rw [e0, cell_of_row _ g j cs e (0, 0) hb, hs]

/-- Integers that came in. -/
def IntsIn (w : World) (a : Option Addr) (len cap : Nat) (xs : List Int) : Prop := Ints w w.heap.size a len xs ∧ len ≤ cap ∧ cap * 8 ≤ 140737488351232 ∧ (a = none → cap = 0) ∧ ∀ x ∈ xs, (Lit.int .i64 x).wf = true

theorem IntsIn.nil_ (w : World) : IntsIn w none 0 0 [] := ⟨Ints.none_ _ _ _, Nat.le_refl _, by omega, fun _ => rfl, fun x hx => by cases hx⟩

theorem IntsIn.of_row {w : World} {x : Addr} {len cap : Nat} {zs : List Int} (hl : len ≤ cap) (hm : cap * 8 ≤ 140737488351232) (hz : zs.length = cap) (hc : ∀ i, i < zs.length → w.cell? (x.add i) = some (.int .i64 (zs.getD i 0)))
    (hb : 0 < cap → x.block < w.heap.size) (hw : ∀ n ∈ zs, (Lit.int .i64 n).wf = true) : IntsIn w (some x) len cap (zs.take len) := by
  refine ⟨⟨by simp [i64s]; omega, ?_⟩, hl, hm, (fun h => by cases h), fun n hn => hw n (List.mem_of_mem_take hn)⟩
  rcases Nat.eq_zero_or_pos len with h0 | h0
  · exact .inl h0
  · refine .inr ⟨x, rfl, hb (by omega), fun j hj => ?_⟩
    have hj' : j < len := by simp [i64s] at hj; omega
    rw [hc j (by omega)]
    have h2 : j < zs.length := by omega
    simp [i64s, List.getElem?_eq_getElem h2]

theorem row_head (a : Addr) (n : Nat) (h : 0 < n) : MemPlace.cell a.block a.off ∈ MemPlace.row a n := by
  unfold MemPlace.row
  rw [List.mem_map]
  exact ⟨0, by simpa using h, rfl⟩

end Go.Proofs.YtmgaegaibglnhaaGreat
