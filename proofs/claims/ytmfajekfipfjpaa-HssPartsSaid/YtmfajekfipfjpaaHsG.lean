/- Layer 6: what an own signature is taken for; the statements' own keys. -/
import Derived.Test.YtmfajekfipfjpaaHsF
import Derived.Test.YtmfajekfipfjpaaHsD
import Derived.Test.YtmfajekfipfjpaaFil6
namespace Go.Proofs.Ytmfajekfipfjpaa
open Go.RowKit
open Go.Lib (strCells strCells_length strCells_oneCell)
open Sha (bn shaN sha_num bn_cut)
attribute [local irreducible] Sha.compress Sha.blocks Sha.sha Sha.pad

theorem hb_ext {a b : ByteArray} (h : a.data.toList = b.data.toList) : a = b := ByteArray.ext (Array.toList_inj.1 h)
theorem beh_app (x : Nat) (hx : x < 4294967296) (t : ByteArray) : behOk (be 4 x ++ t) x = true ∧ behT (be 4 x ++ t) x = t := by
  have hl : (be 4 x ++ t).data.toList = beL 4 x ++ t.data.toList := data_append _ _
  have hz : (be 4 x ++ t).size = 4 + t.size := by rw [ByteArray.size_append, be_size]
  have ho : behOk (be 4 x ++ t) x = true := decide_eq_true ⟨by omega, by rw [hl, List.take_left' (beL_length 4 x)]; exact numL_be 4 x hx⟩
  refine ⟨ho, ?_⟩
  unfold behT
  rw [if_pos ho]
  refine hb_ext ?_
  rw [cut_mid, hl, List.drop_left' (beL_length 4 x), hz, Nat.add_sub_cancel_left, ← data_length]
  exact List.take_length
/-- What a public key says of a signature's form. -/
theorem sl_pub (p : Ots.Par) (kd h : Nat) (hpar : Ots.par (kd : Int) = some p) (h1 : 1 ≤ h) (h5 : h ≤ 5) (id seed : ByteArray) (hi : id.size = 16) : slOk (pubT p kd h id seed).data.toList = true ∧ slLen (pubT p kd h id seed).data.toList = 44 + 32 * p.p + 32 * h := by
  obtain ⟨-, p2, p3, -, -⟩ := Lms.pub_parts p kd h id.data.toList seed.data.toList (by rw [data_length]; exact hi)
  have hk : kd < 4294967296 := by
    rcases Ots.par_kind hpar with ⟨e, _⟩ | ⟨e, _⟩ <;> omega
  have nk : numL (beL 4 kd) = kd := numL_be 4 kd hk
  have nt : numL (beL 4 (Lms.typ h)) = Lms.typ h := numL_be 4 _ (Lms.typ_lt h h5)
  obtain ⟨g1, g2⟩ := hgt_yes h1 h5 rfl
  unfold slOk slLen
  rw [show (pubT p kd h id seed).data.toList = Lms.pubL p kd h id.data.toList seed.data.toList from rfl, p2, p3, nk, nt, g1, g2, hpar]
  refine ⟨rfl, ?_⟩
  unfold parOr
  rw [hpar]
  rfl
theorem hVer_sign (p : Ots.Par) (kd h q : Nat) (hpar : Ots.par (kd : Int) = some p) (h1 : 1 ≤ h) (h5 : h ≤ 5) (id seed : ByteArray) (hi16 : id.size = 16) (hq : q < 2 ^ (2 * h)) (msg x : ByteArray) :
    hVer (hPubT p kd h id seed) x (hSigT p kd h id seed q msg) = comb 0 (Lms.verify (lowPubT p kd h id seed (q / 2 ^ h)).data.toList x.data.toList (sigT p kd h (lowId id seed (q / 2 ^ h)) (lowSeed id seed (q / 2 ^ h)) (q % 2 ^ h) msg).data.toList) := by
  have hu : q / 2 ^ h < 2 ^ h := by
    have e : 2 ^ (2 * h) = 2 ^ h * 2 ^ h := by rw [← Nat.pow_add]; congr 1; omega
    exact Nat.div_lt_of_lt_mul (by omega)
  obtain ⟨u, hue⟩ : ∃ u, q / 2 ^ h = u := ⟨_, rfl⟩
  rw [hue] at hu ⊢
  obtain ⟨r, hre⟩ : ∃ r, q % 2 ^ h = r := ⟨_, rfl⟩
  rw [hre]
  have hk : kd < 4294967296 := by
    rcases Ots.par_kind hpar with ⟨e, _⟩ | ⟨e, _⟩ <;> omega
  have hLz : (lowPubT p kd h id seed u).size = 56 := pubT_size p kd h _ _ (lowId_size id seed u)
  have hV := Lms.verify_ok p kd h id.data.toList seed.data.toList u (lowPubT p kd h id seed u).data.toList hpar hk h1 h5 (by rw [data_length]; exact hi16) hu (by rw [data_length, hLz]; decide)
  have hV : Lms.verify (pubT p kd h id seed).data.toList (lowPubT p kd h id seed u).data.toList (sigT p kd h id seed u (lowPubT p kd h id seed u)).data.toList = 0 := hV
  obtain ⟨sa, sb⟩ := sl_pub p kd h hpar h1 h5 id seed hi16
  obtain ⟨la, lb⟩ := sl_pub p kd h hpar h1 h5 (lowId id seed u) (lowSeed id seed u) (lowId_size id seed u)
  have la : slOk (lowPubT p kd h id seed u).data.toList = true := la
  have lb : slLen (lowPubT p kd h id seed u).data.toList = 44 + 32 * p.p + 32 * h := lb
  have hPz : (pubT p kd h id seed).size = 56 := pubT_size p kd h _ _ hi16
  have z1 := sig_size p kd h u id seed (lowPubT p kd h id seed u)
  have z2 := sig_size p kd h r (lowId id seed u) (lowSeed id seed u) msg
  have hS : hSigT p kd h id seed q msg = be 4 1 ++ (sigT p kd h id seed u (lowPubT p kd h id seed u) ++ (lowPubT p kd h id seed u ++ sigT p kd h (lowId id seed u) (lowSeed id seed u) r msg)) := by
    unfold hSigT
    rw [hue, hre]
    refine hb_ext ?_
    simp only [data_append, List.append_assoc]
  rw [hS]
  unfold hPubT
  obtain ⟨P, hP⟩ : ∃ t, pubT p kd h id seed = t := ⟨_, rfl⟩
  obtain ⟨L, hL⟩ : ∃ t, lowPubT p kd h id seed u = t := ⟨_, rfl⟩
  rw [hP] at hV sa sb hPz ⊢
  rw [hL] at hV la lb hLz z1 ⊢
  obtain ⟨A, hA⟩ : ∃ t, sigT p kd h id seed u L = t := ⟨_, rfl⟩
  obtain ⟨B, hB⟩ : ∃ t, sigT p kd h (lowId id seed u) (lowSeed id seed u) r msg = t := ⟨_, rfl⟩
  rw [hA] at hV z1 ⊢
  rw [hB] at z2 ⊢
  obtain ⟨n, hn⟩ : ∃ n, 44 + 32 * p.p + 32 * h = n := ⟨_, rfl⟩
  rw [hn] at sb lb z1 z2
  clear hP hL hA hB hn hS hue hre
  obtain ⟨b1, b2⟩ := beh_app 2 (by decide) P
  obtain ⟨c1, c2⟩ := beh_app 1 (by decide) (A ++ (L ++ B))
  have hzr : (A ++ (L ++ B)).size = n + (56 + n) := by rw [ByteArray.size_append, ByteArray.size_append, z1, hLz, z2]
  have al : A.data.toList.length = n := by rw [data_length]; exact z1
  have ll : L.data.toList.length = 56 := by rw [data_length]; exact hLz
  have bl : B.data.toList.length = n := by rw [data_length]; exact z2
  have e1 : pN (be 4 2 ++ P) = n := by unfold pN; rw [b2]; exact sb
  have e2 : pLow (be 4 2 ++ P) (be 4 1 ++ (A ++ (L ++ B))) = L := by
    unfold pLow
    rw [e1, c2]
    refine hb_ext ?_
    rw [cut_mid, data_append, data_append, List.drop_left' al, Nat.add_sub_cancel_left]
    exact List.take_left' ll
  have e3 : pOne (be 4 2 ++ P) (be 4 1 ++ (A ++ (L ++ B))) = A := by
    unfold pOne
    rw [e1, c2]
    refine hb_ext ?_
    rw [cut_mid, data_append, data_append, List.drop_zero]
    exact List.take_left' al
  have e4 : pTwo (be 4 2 ++ P) (be 4 1 ++ (A ++ (L ++ B))) = B := by
    unfold pTwo
    rw [e1, c2, hzr]
    refine hb_ext ?_
    rw [cut_mid, data_append, data_append, ← List.drop_drop, List.drop_left' al, List.drop_left' ll, show n + (56 + n) - (n + 56) = n by omega]
    rw [← bl]
    exact List.take_length
  have hg : pGood (be 4 2 ++ P) (be 4 1 ++ (A ++ (L ++ B))) := by
    refine ⟨b1, by rw [b2]; exact hPz, c1, by rw [b2]; exact sa, ?_⟩
    rw [b2, c2, hzr, sb]
    omega
  have ho : pOk (be 4 2 ++ P) (be 4 1 ++ (A ++ (L ++ B))) = true := by
    unfold pOk
    rw [e2, e4, la, lb, z2, decide_eq_true rfl]
    rfl
  unfold hVer
  rw [if_pos ⟨hg, ho⟩, e2, e3, e4, b2, hV]

/-- A statement's name, its seed, its cells. -/
def hId (s : ByteArray) : ByteArray := fillT (⟨#[105]⟩ ++ s) 16
def hSeed (s : ByteArray) : ByteArray := fillT s 32
theorem hId_size (s : ByteArray) : (hId s).size = 16 := fillT_size _ _
theorem hSeed_size (s : ByteArray) : (hSeed s).size = 32 := fillT_size _ _
theorem hpar3 : Ots.par 3 = some Ots.o4 := rfl
def hCells (s : ByteArray) (q : Nat) : List Value := keyC 3 1 (hId s) (hSeed s) (q : Int)

/-- The lower key of the statements' first signature. -/
theorem low_num (l : List UInt8) (n v : Nat) (hl : l.length = 65) (hn : bn l = n) (hv : Nat.beq (shaN n 65) v = true) : bn (Sha.sha l) = v := by
  rw [sha_num l (by rw [hl]; decide), hl, hn]
  exact Nat.eq_of_beq_eq_true hv
def lowIdN : Nat := 209053531166420721249584404460056183425
def lowSeedN : Nat := 97335141807740121809971089823166988481221744128642190365835826612178071014439
theorem lowId_num : bn (lowId (hId ⟨#[115]⟩) (hSeed ⟨#[115]⟩) 1).data.toList = lowIdN := by
  have h := low_num (tagL 2 [hId ⟨#[115]⟩, hSeed ⟨#[115]⟩, be 4 1]) 26815615911119053604847544629885445826215226951248346522733012454146217120131855008509153991367299137388587304014778608666191736042703848479021662505795585 71137230398489820552231251841777693977109319524710131829981431725926525160742 (by decide +kernel) (by decide +kernel) (by decide +kernel)
  have hc := bn_cut (lowH 2 (hId ⟨#[115]⟩) (hSeed ⟨#[115]⟩) 1) 0 16 (by rw [lowH_len]; decide)
  rw [lowH_len, List.drop_zero] at hc
  unfold lowId
  rw [txt_list, hc]
  unfold lowH
  rw [h]
  decide +kernel
theorem lowSeed_num : bn (lowSeed (hId ⟨#[115]⟩) (hSeed ⟨#[115]⟩) 1).data.toList = lowSeedN := by
  unfold lowSeed lowH
  rw [txt_list]
  exact low_num (tagL 3 [hId ⟨#[115]⟩, hSeed ⟨#[115]⟩, be 4 1]) 40223423841061650704421569628091291953694592771840739900456573897867981150205401985311028289534202565078619162201264659519945618854650418425455311511879681 _ (by decide +kernel) (by decide +kernel) (by decide +kernel)
theorem low_wrongN : Nat.beq (Lms.joinN lowIdN 1 (Lms.leafN lowIdN 2 (Lms.keyN lowIdN lowSeedN 0)) (Lms.leafN lowIdN 3 (Lms.wrongN lowIdN lowSeedN 1 109 1 120 1))) (Lms.joinN lowIdN 1 (Lms.leafN lowIdN 2 (Lms.keyN lowIdN lowSeedN 0)) (Lms.leafN lowIdN 3 (Lms.keyN lowIdN lowSeedN 1))) = false := by
  decide +kernel
theorem low_wrong (id seed : List UInt8) (hi : id.length = 16) (hs : seed.length = 32) (ni : bn id = lowIdN) (ns : bn seed = lowSeedN) : Lms.verify (Lms.pubL Ots.o4 3 1 id seed) [120] (Lms.signL Ots.o4 3 1 id seed 1 [109]) = 502 := by
  have e := Lms.verify_sign Ots.o4 3 1 id seed 1 [109] [120] hpar3 (by decide) (by decide) (by decide) hi (by decide) (by decide)
  have hc : Lms.climb id (Lms.path id (Lms.keys Ots.o4 id seed 1) 1 0 (2 ^ 1 + 1)) (2 ^ 1 + 1) (Lms.leaf id (2 ^ 1 + 1) (Ots.cand Ots.o4 (Ots.head id 1) [120] (Ots.sign Ots.o4 3 (Ots.head id 1) seed [109]))) =
      Lms.join id 1 (Lms.leaf id 2 (Ots.pub Ots.o4 (Ots.head id 0) seed)) (Lms.leaf id 3 (Ots.cand Ots.o4 (Ots.head id 1) [120] (Ots.sign Ots.o4 3 (Ots.head id 1) seed [109]))) := by
    simp only [Lms.path, Lms.climb, Lms.other, Lms.node, Lms.keys]
    rfl
  have hn : Lms.node id (Lms.keys Ots.o4 id seed 1) 1 1 = Lms.join id 1 (Lms.leaf id 2 (Ots.pub Ots.o4 (Ots.head id 0) seed)) (Lms.leaf id 3 (Ots.pub Ots.o4 (Ots.head id 1) seed)) := by
    simp only [Lms.node, Lms.keys]
  rw [hc, hn] at e
  rw [e]
  refine if_neg fun h => ?_
  have h := congrArg bn h
  rw [Lms.join_num id 1 _ _ hi (by decide) (Lms.leaf_len _ _ _) (Lms.leaf_len _ _ _), Lms.join_num id 1 _ _ hi (by decide) (Lms.leaf_len _ _ _) (Lms.leaf_len _ _ _), Lms.leaf_num id 3 _ hi (by decide) (Lms.cand_len _ _ _ _), Lms.leaf_num id 2 _ hi (by decide) (Lms.pub_len _ _ _), Lms.leaf_num id 3 _ hi (by decide) (Lms.pub_len _ _ _),
    Lms.wrong_num id seed 1 [109] [120] 3 hi hs (by decide) (by decide) (by decide), Lms.key_num id seed 1 hi hs (by decide), Lms.key_num id seed 0 hi hs (by decide), ni, ns] at h
  have h2 := low_wrongN
  have e1 : bn [109] = 109 := rfl
  have e2 : bn [120] = 120 := rfl
  rw [e1, e2] at h
  rw [List.length_singleton, List.length_singleton] at h
  exact Nat.ne_of_beq_eq_false h2 h
end Go.Proofs.Ytmfajekfipfjpaa
