/- Regions of the reference's block256, one by one. Made by tools/regions.py. -/
import Derived.Test.YtenfhmpjhbpkpaaBlkBase
import Derived.Test.YtenfhmpjhbpkpaaMixBase
namespace Go.Proofs.Ytenfhmpjhbpkpaa
open Go.RowKit
attribute [local go_sem] u_add u_wrap_add u_or u_and u_xor u_shr3 u_shr10 u_not

set_option maxRecDepth 100000 in
set_option maxHeartbeats 2000000 in
theorem blkAdd {q0_ q1_ q3_ q4_ q5_ q6_ q7_ q8_ q9_ q10_ q12_ q13_ q14_ q15_ q16_ q18_ q19_ q20_ q21_ q22_ q23_ q24_ q25_ q26_ q27_ q28_ q29_ q30_ q31_ q32_ q33_ q34_ q35_ q36_ q37_ q38_ q39_ q40_ q41_ q42_ q43_ q44_ q45_ q46_ q47_ q48_ q49_ q50_ q51_ q52_ q53_ q54_ q55_ q56_ q57_ q58_ q59_ q60_ q61_ q62_ q63_ q64_ q65_ q66_ q67_ q68_ q69_ q70_ q71_ q72_ q73_ q74_ q75_ q76_ q77_ q78_ q79_ q80_ q81_ q82_ q83_ q84_ q85_ q86_ q87_ q88_ q89_ q90_ q91_ q92_ q93_ q94_ q95_ q96_ q97_ q98_ q99_ q100_ q101_ q102_ q103_ q104_ q105_ q106_ q107_ q108_ q109_ q110_ q111_ q112_ q113_ q114_ q115_ q116_ q117_ q118_ q119_ q120_ q121_ q122_ q123_ q124_ q125_ q126_ q127_ q128_ q129_ q130_ q131_ q132_ q133_ q134_ q135_ q136_ q137_ q138_ q139_ q140_ q141_ q142_ q143_ q144_ q145_ q146_ q147_ q148_ q149_ q150_ q151_ q152_ q153_ q154_ q155_ q156_ q157_ q158_ q159_ q160_ q161_ q162_ q163_ q164_ q165_ q166_ q167_ q168_ q169_ q170_ q171_ q172_ q173_ q174_ q175_ q176_ q177_ q178_ q179_ q180_ q181_ q182_ q183_ q184_ q185_ q186_ q187_ q188_ q189_ q190_ q191_ q192_ q193_ q194_ q195_ q196_ q197_ q198_ q199_ q200_ q201_ q202_ q203_ q204_ q205_ q206_ q207_ q208_ q209_ q210_ q211_ : Value} (x y : BitVec 32) (B2 BV k : Nat) (hk : k < 8) {w : World} (c : w.cell? ⟨B2, k, none⟩ = some (.int .u32 (u x))) (d : w.cell? ⟨BV, k, none⟩ = some (.int .u32 (u y))) (cf : w.frozen? ⟨B2, k, none⟩ = false) {Q : Exit → Act → World → Prop}
    (hQ : ∀ (y202_ y203_ y204_ y205_ y206_ y207_ y208_ y209_ y210_ : Value), Q .normal ⟨#[
    q0_, q1_, (.pointer (some ⟨B2, 0, none⟩)), q3_, q4_, q5_, q6_, q7_, q8_, q9_, q10_, (.pointer (some ⟨BV, 0, none⟩)), q12_, q13_, q14_, q15_, q16_, (.int .i64 (k : Int)), q18_, q19_, q20_, q21_, q22_, 
    q23_, q24_, q25_, q26_, q27_, q28_, q29_, q30_, q31_, q32_, q33_, q34_, q35_, q36_, q37_, q38_, q39_, q40_, q41_, q42_, q43_, q44_, q45_, q46_, q47_, q48_, q49_, q50_, q51_, q52_, q53_, q54_, q55_, 
    q56_, q57_, q58_, q59_, q60_, q61_, q62_, q63_, q64_, q65_, q66_, q67_, q68_, q69_, q70_, q71_, q72_, q73_, q74_, q75_, q76_, q77_, q78_, q79_, q80_, q81_, q82_, q83_, q84_, q85_, q86_, q87_, q88_, 
    q89_, q90_, q91_, q92_, q93_, q94_, q95_, q96_, q97_, q98_, q99_, q100_, q101_, q102_, q103_, q104_, q105_, q106_, q107_, q108_, q109_, q110_, q111_, q112_, q113_, q114_, q115_, q116_, q117_, q118_, 
    q119_, q120_, q121_, q122_, q123_, q124_, q125_, q126_, q127_, q128_, q129_, q130_, q131_, q132_, q133_, q134_, q135_, q136_, q137_, q138_, q139_, q140_, q141_, q142_, q143_, q144_, q145_, q146_, q147_, 
    q148_, q149_, q150_, q151_, q152_, q153_, q154_, q155_, q156_, q157_, q158_, q159_, q160_, q161_, q162_, q163_, q164_, q165_, q166_, q167_, q168_, q169_, q170_, q171_, q172_, q173_, q174_, q175_, q176_, 
    q177_, q178_, q179_, q180_, q181_, q182_, q183_, q184_, q185_, q186_, q187_, q188_, q189_, q190_, q191_, q192_, q193_, q194_, q195_, q196_, q197_, q198_, q199_, q200_, q201_, y202_, y203_, y204_, y205_, 
    y206_, y207_, y208_, y209_, y210_, q211_], []⟩ ((w.setCell ⟨B2, k, none⟩ (.int .u32 (u (x + y)))).drew)) :
    Code.wp Try.prog (blkReg 25) Q ⟨#[
    q0_, q1_, (.pointer (some ⟨B2, 0, none⟩)), q3_, q4_, q5_, q6_, q7_, q8_, q9_, q10_, (.pointer (some ⟨BV, 0, none⟩)), q12_, q13_, q14_, q15_, q16_, (.int .i64 (k : Int)), q18_, q19_, q20_, q21_, q22_, 
    q23_, q24_, q25_, q26_, q27_, q28_, q29_, q30_, q31_, q32_, q33_, q34_, q35_, q36_, q37_, q38_, q39_, q40_, q41_, q42_, q43_, q44_, q45_, q46_, q47_, q48_, q49_, q50_, q51_, q52_, q53_, q54_, q55_, 
    q56_, q57_, q58_, q59_, q60_, q61_, q62_, q63_, q64_, q65_, q66_, q67_, q68_, q69_, q70_, q71_, q72_, q73_, q74_, q75_, q76_, q77_, q78_, q79_, q80_, q81_, q82_, q83_, q84_, q85_, q86_, q87_, q88_, 
    q89_, q90_, q91_, q92_, q93_, q94_, q95_, q96_, q97_, q98_, q99_, q100_, q101_, q102_, q103_, q104_, q105_, q106_, q107_, q108_, q109_, q110_, q111_, q112_, q113_, q114_, q115_, q116_, q117_, q118_, 
    q119_, q120_, q121_, q122_, q123_, q124_, q125_, q126_, q127_, q128_, q129_, q130_, q131_, q132_, q133_, q134_, q135_, q136_, q137_, q138_, q139_, q140_, q141_, q142_, q143_, q144_, q145_, q146_, q147_, 
    q148_, q149_, q150_, q151_, q152_, q153_, q154_, q155_, q156_, q157_, q158_, q159_, q160_, q161_, q162_, q163_, q164_, q165_, q166_, q167_, q168_, q169_, q170_, q171_, q172_, q173_, q174_, q175_, q176_, 
    q177_, q178_, q179_, q180_, q181_, q182_, q183_, q184_, q185_, q186_, q187_, q188_, q189_, q190_, q191_, q192_, q193_, q194_, q195_, q196_, q197_, q198_, q199_, q200_, q201_, q202_, q203_, q204_, q205_, 
    q206_, q207_, q208_, q209_, q210_, q211_], []⟩ w := by
  conv => arg 2; whnf
  have q4 : (k : Int) < 8 := by omega
  go_still_tail 9, (by kernel_rfl)
  change wpList _ _ _ _ _ w.drew
  go_wp2
  exact hQ _ _ _ _ _ _ _ _ _

set_option maxRecDepth 100000 in
theorem blkAddA {T : Array Value} {l0 l1 l4 l5 l6 l7 l8 l9 l10 l12 l13 l14 l15 l16 : Value} (x y : BitVec 32) (B2 BV k : Nat) (hk : k < 8) {w : World} (c : w.cell? ⟨B2, k, none⟩ = some (.int .u32 (u x))) (d : w.cell? ⟨BV, k, none⟩ = some (.int .u32 (u y))) (cf : w.frozen? ⟨B2, k, none⟩ = false) {Q : Exit → Act → World → Prop} (hL : blkLive T l0 l1 (.pointer (some ⟨B2, 0, none⟩)) l4 l5 l6 l7 l8 l9 l10 (.pointer (some ⟨BV, 0, none⟩)) l12 l13 l14 l15 l16 (.int .i64 (k : Int)))
    (hQ : ∀ (T' : Array Value), blkLive T' l0 l1 (.pointer (some ⟨B2, 0, none⟩)) l4 l5 l6 l7 l8 l9 l10 (.pointer (some ⟨BV, 0, none⟩)) l12 l13 l14 l15 l16 (.int .i64 (k : Int)) → Q .normal ⟨T', []⟩ ((w.setCell ⟨B2, k, none⟩ (.int .u32 (u (x + y)))).drew)) : Code.wp Try.prog (blkReg 25) Q ⟨T, []⟩ w := by
  rw [blkOut T hL.size]
  rw [hL.s0, hL.s1, hL.s2, hL.s4, hL.s5, hL.s6, hL.s7, hL.s8, hL.s9, hL.s10, hL.s11, hL.s12, hL.s13, hL.s14, hL.s15, hL.s16, hL.s17]
  refine blkAdd x y B2 BV k hk c d cf ?_
  intros
  exact hQ _ ⟨rfl, rfl, rfl, rfl, rfl, rfl, rfl, rfl, rfl, rfl, rfl, rfl, rfl, rfl, rfl, rfl, rfl, rfl⟩

end Go.Proofs.Ytenfhmpjhbpkpaa
