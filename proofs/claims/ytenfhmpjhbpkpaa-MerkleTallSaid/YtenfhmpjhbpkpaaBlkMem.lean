/- Regions of the reference's block256, one by one. Made by tools/regions.py. -/
import Derived.Test.YtenfhmpjhbpkpaaBlkBase
import Derived.Test.YtenfhmpjhbpkpaaShaWrite
namespace Go.Proofs.Ytenfhmpjhbpkpaa
open Go.RowKit
attribute [local go_sem] u_add u_wrap_add u_or u_and u_xor u_shr3 u_shr10 u_not
def z8 : Array Value := Array.replicate 8 (.int .u32 0)
theorem z8_le : 0 + 8 ≤ z8.toList.length := by decide

set_option maxRecDepth 100000 in
set_option maxHeartbeats 2000000 in
theorem blkFirst {q1_ q2_ q3_ q4_ q5_ q6_ q7_ q8_ q9_ q10_ q11_ q12_ q13_ q14_ q15_ q16_ q17_ q18_ q19_ q20_ q21_ q22_ q23_ q24_ q25_ q26_ q27_ q28_ q29_ q30_ q31_ q32_ q33_ q34_ q35_ q36_ q37_ q38_ q39_ q40_ q41_ q42_ q43_ q44_ q45_ q46_ q47_ q48_ q49_ q50_ q51_ q52_ q53_ q54_ q55_ q56_ q57_ q58_ q59_ q60_ q61_ q62_ q63_ q64_ q65_ q66_ q67_ q68_ q69_ q70_ q71_ q72_ q73_ q74_ q75_ q76_ q77_ q78_ q79_ q80_ q81_ q82_ q83_ q84_ q85_ q86_ q87_ q88_ q89_ q90_ q91_ q92_ q93_ q94_ q95_ q96_ q97_ q98_ q99_ q100_ q101_ q102_ q103_ q104_ q105_ q106_ q107_ q108_ q109_ q110_ q111_ q112_ q113_ q114_ q115_ q116_ q117_ q118_ q119_ q120_ q121_ q122_ q123_ q124_ q125_ q126_ q127_ q128_ q129_ q130_ q131_ q132_ q133_ q134_ q135_ q136_ q137_ q138_ q139_ q140_ q141_ q142_ q143_ q144_ q145_ q146_ q147_ q148_ q149_ q150_ q151_ q152_ q153_ q154_ q155_ q156_ q157_ q158_ q159_ q160_ q161_ q162_ q163_ q164_ q165_ q166_ q167_ q168_ q169_ q170_ q171_ q172_ q173_ q174_ q175_ q176_ q177_ q178_ q179_ q180_ q181_ q182_ q183_ q184_ q185_ q186_ q187_ q188_ q189_ q190_ q191_ q192_ q193_ q194_ q195_ q196_ q197_ q198_ q199_ q200_ q201_ q202_ q203_ q204_ q205_ q206_ q207_ q208_ q209_ q210_ q211_ : Value} (s : Sha.S8) {w : World} {Q : Exit → Act → World → Prop}
    (hQ : Q .normal ⟨#[
    (s8Agg s), q1_, .pointer (some ⟨w.heap.size, 0, none⟩), q3_, .pointer (some ⟨w.heap.size + 1, 0, none⟩), q5_, q6_, q7_, q8_, q9_, q10_, q11_, q12_, q13_, q14_, q15_, q16_, q17_, q18_, q19_, q20_, q21_, 
    q22_, q23_, q24_, q25_, q26_, q27_, q28_, q29_, q30_, q31_, q32_, q33_, q34_, q35_, q36_, q37_, q38_, q39_, q40_, q41_, q42_, q43_, q44_, q45_, q46_, q47_, q48_, q49_, q50_, q51_, q52_, q53_, q54_, 
    q55_, q56_, q57_, q58_, q59_, q60_, q61_, q62_, q63_, q64_, q65_, q66_, q67_, q68_, q69_, q70_, q71_, q72_, q73_, q74_, q75_, q76_, q77_, q78_, q79_, q80_, q81_, q82_, q83_, q84_, q85_, q86_, q87_, 
    q88_, q89_, q90_, q91_, q92_, q93_, q94_, q95_, q96_, q97_, q98_, q99_, q100_, q101_, q102_, q103_, q104_, q105_, q106_, q107_, q108_, q109_, q110_, q111_, q112_, q113_, q114_, q115_, q116_, q117_, 
    q118_, q119_, q120_, q121_, q122_, q123_, q124_, q125_, q126_, q127_, q128_, q129_, q130_, q131_, q132_, q133_, q134_, q135_, q136_, q137_, q138_, q139_, q140_, q141_, q142_, q143_, q144_, q145_, q146_, 
    q147_, q148_, q149_, q150_, q151_, q152_, q153_, q154_, q155_, q156_, q157_, q158_, q159_, q160_, q161_, q162_, q163_, q164_, q165_, q166_, q167_, q168_, q169_, q170_, q171_, q172_, q173_, q174_, q175_, 
    q176_, q177_, q178_, q179_, q180_, q181_, q182_, q183_, q184_, q185_, q186_, q187_, q188_, q189_, q190_, q191_, q192_, q193_, q194_, q195_, q196_, q197_, q198_, q199_, q200_, q201_, q202_, q203_, q204_, 
    q205_, q206_, q207_, q208_, q209_, q210_, q211_], []⟩ ((w.alloc (.cells (wordCells s.list).toArray 66)).alloc (.cells (Array.replicate 8 (.int .u32 0)) 66))) :
    Code.wp Try.prog (blkReg 0) Q ⟨#[
    (s8Agg s), q1_, q2_, q3_, q4_, q5_, q6_, q7_, q8_, q9_, q10_, q11_, q12_, q13_, q14_, q15_, q16_, q17_, q18_, q19_, q20_, q21_, q22_, q23_, q24_, q25_, q26_, q27_, q28_, q29_, q30_, q31_, q32_, q33_, 
    q34_, q35_, q36_, q37_, q38_, q39_, q40_, q41_, q42_, q43_, q44_, q45_, q46_, q47_, q48_, q49_, q50_, q51_, q52_, q53_, q54_, q55_, q56_, q57_, q58_, q59_, q60_, q61_, q62_, q63_, q64_, q65_, q66_, 
    q67_, q68_, q69_, q70_, q71_, q72_, q73_, q74_, q75_, q76_, q77_, q78_, q79_, q80_, q81_, q82_, q83_, q84_, q85_, q86_, q87_, q88_, q89_, q90_, q91_, q92_, q93_, q94_, q95_, q96_, q97_, q98_, q99_, 
    q100_, q101_, q102_, q103_, q104_, q105_, q106_, q107_, q108_, q109_, q110_, q111_, q112_, q113_, q114_, q115_, q116_, q117_, q118_, q119_, q120_, q121_, q122_, q123_, q124_, q125_, q126_, q127_, q128_, 
    q129_, q130_, q131_, q132_, q133_, q134_, q135_, q136_, q137_, q138_, q139_, q140_, q141_, q142_, q143_, q144_, q145_, q146_, q147_, q148_, q149_, q150_, q151_, q152_, q153_, q154_, q155_, q156_, q157_, 
    q158_, q159_, q160_, q161_, q162_, q163_, q164_, q165_, q166_, q167_, q168_, q169_, q170_, q171_, q172_, q173_, q174_, q175_, q176_, q177_, q178_, q179_, q180_, q181_, q182_, q183_, q184_, q185_, q186_, 
    q187_, q188_, q189_, q190_, q191_, q192_, q193_, q194_, q195_, q196_, q197_, q198_, q199_, q200_, q201_, q202_, q203_, q204_, q205_, q206_, q207_, q208_, q209_, q210_, q211_], []⟩ w := by
  conv => arg 2; whnf
  go_wp2_with (first
    | (refine wpList_run (o := ⟨some 2, _, _, _, _, _⟩) rfl (.pointer (some ⟨w.heap.size, 0, none⟩)) (w.alloc (.cells (wordCells s.list).toArray 66)) (by kernel_rfl) ?_)
    | (refine wpList_run (o := ⟨some 4, _, _, _, _, _⟩) rfl (.pointer (some ⟨w.heap.size + 1, 0, none⟩)) ((w.alloc (.cells (wordCells s.list).toArray 66)).alloc (.cells (Array.replicate 8 (.int .u32 0)) 66)) ?_ ?_
       · rw [← heap_push]; kernel_rfl))
  exact hQ 

set_option maxRecDepth 100000 in
set_option maxHeartbeats 2000000 in
theorem blkTable {q0_ q1_ q2_ q3_ q4_ q5_ q6_ q7_ q8_ q9_ q10_ q11_ q12_ q13_ q14_ q15_ q16_ q17_ q18_ q19_ q20_ q21_ q22_ q23_ q24_ q25_ q26_ q27_ q28_ q29_ q30_ q31_ q32_ q33_ q34_ q35_ q36_ q37_ q38_ q39_ q40_ q41_ q42_ q43_ q44_ q45_ q46_ q47_ q48_ q49_ q50_ q51_ q52_ q53_ q54_ q55_ q56_ q57_ q58_ q59_ q60_ q61_ q62_ q63_ q64_ q65_ q66_ q67_ q68_ q69_ q70_ q71_ q72_ q73_ q74_ q75_ q76_ q77_ q78_ q79_ q80_ q81_ q82_ q83_ q84_ q85_ q86_ q87_ q88_ q89_ q90_ q91_ q92_ q93_ q94_ q95_ q96_ q97_ q98_ q99_ q100_ q101_ q102_ q103_ q104_ q105_ q106_ q107_ q108_ q109_ q110_ q111_ q112_ q113_ q114_ q115_ q116_ q117_ q118_ q119_ q120_ q121_ q122_ q123_ q124_ q125_ q126_ q127_ q128_ q129_ q130_ q131_ q132_ q133_ q134_ q135_ q136_ q137_ q138_ q139_ q140_ q141_ q142_ q143_ q144_ q145_ q146_ q147_ q148_ q149_ q150_ q151_ q152_ q153_ q154_ q155_ q156_ q157_ q158_ q159_ q160_ q161_ q162_ q163_ q164_ q165_ q166_ q167_ q168_ q169_ q170_ q171_ q172_ q173_ q174_ q175_ q176_ q177_ q178_ q179_ q180_ q181_ q182_ q183_ q184_ q185_ q186_ q187_ q188_ q189_ q190_ q191_ q192_ q193_ q194_ q195_ q196_ q197_ q198_ q199_ q200_ q201_ q202_ q203_ q204_ q205_ q206_ q207_ q208_ q209_ q210_ q211_ : Value} {w : World} {Q : Exit → Act → World → Prop}
    (hQ : ∀ (y18_ : Value) (BT : Nat) (w' : World) (_ : w.heap.size ≤ BT) (_ : Holds w' BT 93 (wordCells Sha.ks)) (_ : Below w.heap.size w w'), Q .normal ⟨#[
    q0_, q1_, q2_, q3_, q4_, .pointer (some ⟨BT, 0, none⟩), q6_, q7_, q8_, q9_, q10_, q11_, q12_, q13_, q14_, q15_, q16_, q17_, y18_, q19_, q20_, q21_, q22_, q23_, q24_, q25_, q26_, q27_, q28_, q29_, q30_, 
    q31_, q32_, q33_, q34_, q35_, q36_, q37_, q38_, q39_, q40_, q41_, q42_, q43_, q44_, q45_, q46_, q47_, q48_, q49_, q50_, q51_, q52_, q53_, q54_, q55_, q56_, q57_, q58_, q59_, q60_, q61_, q62_, q63_, 
    q64_, q65_, q66_, q67_, q68_, q69_, q70_, q71_, q72_, q73_, q74_, q75_, q76_, q77_, q78_, q79_, q80_, q81_, q82_, q83_, q84_, q85_, q86_, q87_, q88_, q89_, q90_, q91_, q92_, q93_, q94_, q95_, q96_, 
    q97_, q98_, q99_, q100_, q101_, q102_, q103_, q104_, q105_, q106_, q107_, q108_, q109_, q110_, q111_, q112_, q113_, q114_, q115_, q116_, q117_, q118_, q119_, q120_, q121_, q122_, q123_, q124_, q125_, 
    q126_, q127_, q128_, q129_, q130_, q131_, q132_, q133_, q134_, q135_, q136_, q137_, q138_, q139_, q140_, q141_, q142_, q143_, q144_, q145_, q146_, q147_, q148_, q149_, q150_, q151_, q152_, q153_, q154_, 
    q155_, q156_, q157_, q158_, q159_, q160_, q161_, q162_, q163_, q164_, q165_, q166_, q167_, q168_, q169_, q170_, q171_, q172_, q173_, q174_, q175_, q176_, q177_, q178_, q179_, q180_, q181_, q182_, q183_, 
    q184_, q185_, q186_, q187_, q188_, q189_, q190_, q191_, q192_, q193_, q194_, q195_, q196_, q197_, q198_, q199_, q200_, q201_, q202_, q203_, q204_, q205_, q206_, q207_, q208_, q209_, q210_, q211_], []⟩ (w')) :
    Code.wp Try.prog (blkReg 1) Q ⟨#[
    q0_, q1_, q2_, q3_, q4_, q5_, q6_, q7_, q8_, q9_, q10_, q11_, q12_, q13_, q14_, q15_, q16_, q17_, q18_, q19_, q20_, q21_, q22_, q23_, q24_, q25_, q26_, q27_, q28_, q29_, q30_, q31_, q32_, q33_, q34_, 
    q35_, q36_, q37_, q38_, q39_, q40_, q41_, q42_, q43_, q44_, q45_, q46_, q47_, q48_, q49_, q50_, q51_, q52_, q53_, q54_, q55_, q56_, q57_, q58_, q59_, q60_, q61_, q62_, q63_, q64_, q65_, q66_, q67_, 
    q68_, q69_, q70_, q71_, q72_, q73_, q74_, q75_, q76_, q77_, q78_, q79_, q80_, q81_, q82_, q83_, q84_, q85_, q86_, q87_, q88_, q89_, q90_, q91_, q92_, q93_, q94_, q95_, q96_, q97_, q98_, q99_, q100_, 
    q101_, q102_, q103_, q104_, q105_, q106_, q107_, q108_, q109_, q110_, q111_, q112_, q113_, q114_, q115_, q116_, q117_, q118_, q119_, q120_, q121_, q122_, q123_, q124_, q125_, q126_, q127_, q128_, q129_, 
    q130_, q131_, q132_, q133_, q134_, q135_, q136_, q137_, q138_, q139_, q140_, q141_, q142_, q143_, q144_, q145_, q146_, q147_, q148_, q149_, q150_, q151_, q152_, q153_, q154_, q155_, q156_, q157_, q158_, 
    q159_, q160_, q161_, q162_, q163_, q164_, q165_, q166_, q167_, q168_, q169_, q170_, q171_, q172_, q173_, q174_, q175_, q176_, q177_, q178_, q179_, q180_, q181_, q182_, q183_, q184_, q185_, q186_, q187_, 
    q188_, q189_, q190_, q191_, q192_, q193_, q194_, q195_, q196_, q197_, q198_, q199_, q200_, q201_, q202_, q203_, q204_, q205_, q206_, q207_, q208_, q209_, q210_, q211_], []⟩ w := by
  conv => arg 2; whnf
  go_wp2_with (first
    | (refine wpList_run (o := ⟨some 5, _, _, _, _, _⟩) rfl (.pointer (some ⟨w.heap.size, 0, none⟩)) (w.alloc (.cells z64 93)) (by kernel_rfl) ?_)
    | (refine wpList_store_mid rfl 93 (.tmp 5) (.tmp 18) rfl w.heap.size 0 (wordCells Sha.ks).toArray rfl rfl (by exact (Holds.new _ _ _).there 0 64 z64_le) (by exact Try.sizeKs) (by exact all_oneCell_toArray (wordCells_one _)) ?_; generalize hW2 : World.setCells _ _ _ _ = W2))
  have hT0 : Holds W2 w.heap.size 93 (wordCells Sha.ks) := by
    have h1 := Holds.put (Holds.new w 93 z64) 0 (wordCells Sha.ks) (by decide)
    rw [put_all _ _ (by decide), hW2] at h1
    exact h1
  have hb2 : Below w.heap.size w W2 := by
    rw [← hW2]
    exact below_setCells ((Below.refl _ _).alloc (Nat.le_refl _) _) _ _ _ (Nat.le_refl _)
  exact hQ _ _ _ (Nat.le_refl _) hT0 hb2

set_option maxRecDepth 100000 in
set_option maxHeartbeats 2000000 in
theorem blkZero {q0_ q1_ q2_ q3_ q4_ q5_ q6_ q7_ q8_ q9_ q10_ q11_ q12_ q13_ q14_ q15_ q16_ q17_ q18_ q19_ q20_ q21_ q22_ q23_ q24_ q25_ q26_ q27_ q28_ q29_ q30_ q31_ q32_ q33_ q34_ q35_ q36_ q37_ q38_ q39_ q40_ q41_ q42_ q43_ q44_ q45_ q46_ q47_ q48_ q49_ q50_ q51_ q52_ q53_ q54_ q55_ q56_ q57_ q58_ q59_ q60_ q61_ q62_ q63_ q64_ q65_ q66_ q67_ q68_ q69_ q70_ q71_ q72_ q73_ q74_ q75_ q76_ q77_ q78_ q79_ q80_ q81_ q82_ q83_ q84_ q85_ q86_ q87_ q88_ q89_ q90_ q91_ q92_ q93_ q94_ q95_ q96_ q97_ q98_ q99_ q100_ q101_ q102_ q103_ q104_ q105_ q106_ q107_ q108_ q109_ q110_ q111_ q112_ q113_ q114_ q115_ q116_ q117_ q118_ q119_ q120_ q121_ q122_ q123_ q124_ q125_ q126_ q127_ q128_ q129_ q130_ q131_ q132_ q133_ q134_ q135_ q136_ q137_ q138_ q139_ q140_ q141_ q142_ q143_ q144_ q145_ q146_ q147_ q148_ q149_ q150_ q151_ q152_ q153_ q154_ q155_ q156_ q157_ q158_ q159_ q160_ q161_ q162_ q163_ q164_ q165_ q166_ q167_ q168_ q169_ q170_ q171_ q172_ q173_ q174_ q175_ q176_ q177_ q178_ q179_ q180_ q181_ q182_ q183_ q184_ q185_ q186_ q187_ q188_ q189_ q190_ q191_ q192_ q193_ q194_ q195_ q196_ q197_ q198_ q199_ q200_ q201_ q202_ q203_ q204_ q205_ q206_ q207_ q208_ q209_ q210_ q211_ : Value} {w : World} {Q : Exit → Act → World → Prop}
    (hQ : Q .normal ⟨#[
    q0_, q1_, q2_, q3_, q4_, q5_, .pointer (some ⟨w.heap.size, 0, none⟩), q7_, q8_, q9_, q10_, q11_, q12_, q13_, q14_, q15_, q16_, q17_, q18_, q19_, q20_, q21_, q22_, q23_, q24_, q25_, q26_, q27_, q28_, 
    q29_, q30_, q31_, q32_, q33_, q34_, q35_, q36_, q37_, q38_, q39_, q40_, q41_, q42_, q43_, q44_, q45_, q46_, q47_, q48_, q49_, q50_, q51_, q52_, q53_, q54_, q55_, q56_, q57_, q58_, q59_, q60_, q61_, 
    q62_, q63_, q64_, q65_, q66_, q67_, q68_, q69_, q70_, q71_, q72_, q73_, q74_, q75_, q76_, q77_, q78_, q79_, q80_, q81_, q82_, q83_, q84_, q85_, q86_, q87_, q88_, q89_, q90_, q91_, q92_, q93_, q94_, 
    q95_, q96_, q97_, q98_, q99_, q100_, q101_, q102_, q103_, q104_, q105_, q106_, q107_, q108_, q109_, q110_, q111_, q112_, q113_, q114_, q115_, q116_, q117_, q118_, q119_, q120_, q121_, q122_, q123_, 
    q124_, q125_, q126_, q127_, q128_, q129_, q130_, q131_, q132_, q133_, q134_, q135_, q136_, q137_, q138_, q139_, q140_, q141_, q142_, q143_, q144_, q145_, q146_, q147_, q148_, q149_, q150_, q151_, q152_, 
    q153_, q154_, q155_, q156_, q157_, q158_, q159_, q160_, q161_, q162_, q163_, q164_, q165_, q166_, q167_, q168_, q169_, q170_, q171_, q172_, q173_, q174_, q175_, q176_, q177_, q178_, q179_, q180_, q181_, 
    q182_, q183_, q184_, q185_, q186_, q187_, q188_, q189_, q190_, q191_, q192_, q193_, q194_, q195_, q196_, q197_, q198_, q199_, q200_, q201_, q202_, q203_, q204_, q205_, q206_, q207_, q208_, q209_, q210_, 
    q211_], []⟩ (w.alloc (.cells z64 93))) :
    Code.wp Try.prog (blkReg 2) Q ⟨#[
    q0_, q1_, q2_, q3_, q4_, q5_, q6_, q7_, q8_, q9_, q10_, q11_, q12_, q13_, q14_, q15_, q16_, q17_, q18_, q19_, q20_, q21_, q22_, q23_, q24_, q25_, q26_, q27_, q28_, q29_, q30_, q31_, q32_, q33_, q34_, 
    q35_, q36_, q37_, q38_, q39_, q40_, q41_, q42_, q43_, q44_, q45_, q46_, q47_, q48_, q49_, q50_, q51_, q52_, q53_, q54_, q55_, q56_, q57_, q58_, q59_, q60_, q61_, q62_, q63_, q64_, q65_, q66_, q67_, 
    q68_, q69_, q70_, q71_, q72_, q73_, q74_, q75_, q76_, q77_, q78_, q79_, q80_, q81_, q82_, q83_, q84_, q85_, q86_, q87_, q88_, q89_, q90_, q91_, q92_, q93_, q94_, q95_, q96_, q97_, q98_, q99_, q100_, 
    q101_, q102_, q103_, q104_, q105_, q106_, q107_, q108_, q109_, q110_, q111_, q112_, q113_, q114_, q115_, q116_, q117_, q118_, q119_, q120_, q121_, q122_, q123_, q124_, q125_, q126_, q127_, q128_, q129_, 
    q130_, q131_, q132_, q133_, q134_, q135_, q136_, q137_, q138_, q139_, q140_, q141_, q142_, q143_, q144_, q145_, q146_, q147_, q148_, q149_, q150_, q151_, q152_, q153_, q154_, q155_, q156_, q157_, q158_, 
    q159_, q160_, q161_, q162_, q163_, q164_, q165_, q166_, q167_, q168_, q169_, q170_, q171_, q172_, q173_, q174_, q175_, q176_, q177_, q178_, q179_, q180_, q181_, q182_, q183_, q184_, q185_, q186_, q187_, 
    q188_, q189_, q190_, q191_, q192_, q193_, q194_, q195_, q196_, q197_, q198_, q199_, q200_, q201_, q202_, q203_, q204_, q205_, q206_, q207_, q208_, q209_, q210_, q211_], []⟩ w := by
  conv => arg 2; whnf
  go_wp2_with (refine wpList_run (o := ⟨some 6, _, _, _, _, _⟩) rfl (.pointer (some ⟨w.heap.size, 0, none⟩)) (w.alloc (.cells z64 93)) (by kernel_rfl) ?_)
  exact hQ 

set_option maxRecDepth 100000 in
set_option maxHeartbeats 2000000 in
theorem blkCopy {q0_ q1_ q3_ q4_ q5_ q6_ q7_ q8_ q9_ q10_ q11_ q12_ q13_ q14_ q15_ q16_ q17_ q18_ q19_ q20_ q21_ q22_ q23_ q24_ q25_ q26_ q27_ q28_ q29_ q30_ q31_ q32_ q33_ q34_ q35_ q36_ q37_ q38_ q39_ q40_ q41_ q42_ q43_ q44_ q45_ q46_ q47_ q48_ q49_ q50_ q51_ q52_ q53_ q54_ q55_ q56_ q57_ q58_ q59_ q60_ q61_ q62_ q63_ q64_ q65_ q66_ q67_ q68_ q69_ q70_ q71_ q72_ q73_ q74_ q75_ q76_ q77_ q78_ q79_ q80_ q81_ q82_ q83_ q84_ q85_ q86_ q87_ q88_ q89_ q90_ q91_ q92_ q93_ q94_ q95_ q96_ q97_ q98_ q99_ q100_ q101_ q102_ q103_ q104_ q105_ q106_ q107_ q108_ q109_ q110_ q111_ q112_ q113_ q114_ q115_ q116_ q117_ q118_ q119_ q120_ q121_ q122_ q123_ q124_ q125_ q126_ q127_ q128_ q129_ q130_ q131_ q132_ q133_ q134_ q135_ q136_ q137_ q138_ q139_ q140_ q141_ q142_ q143_ q144_ q145_ q146_ q147_ q148_ q149_ q150_ q151_ q152_ q153_ q154_ q155_ q156_ q157_ q158_ q159_ q160_ q161_ q162_ q163_ q164_ q165_ q166_ q167_ q168_ q169_ q170_ q171_ q172_ q173_ q174_ q175_ q176_ q177_ q178_ q179_ q180_ q181_ q182_ q183_ q184_ q185_ q186_ q187_ q188_ q189_ q190_ q191_ q192_ q193_ q194_ q195_ q196_ q197_ q198_ q199_ q200_ q201_ q202_ q203_ q204_ q205_ q206_ q207_ q208_ q209_ q210_ q211_ : Value} (s : Sha.S8) (B2 : Nat) {w : World} (h2 : Holds w B2 66 (wordCells s.list)) {Q : Exit → Act → World → Prop}
    (hQ : ∀ (y107_ : Value) (BV : Nat) (w' : World) (_ : w.heap.size ≤ BV) (_ : Holds w' BV 66 (wordCells s.list)) (_ : Below w.heap.size w w'), Q .normal ⟨#[
    q0_, q1_, (.pointer (some ⟨B2, 0, none⟩)), q3_, q4_, q5_, q6_, q7_, q8_, q9_, q10_, .pointer (some ⟨BV, 0, none⟩), q12_, q13_, q14_, q15_, q16_, q17_, q18_, q19_, q20_, q21_, q22_, q23_, q24_, q25_, 
    q26_, q27_, q28_, q29_, q30_, q31_, q32_, q33_, q34_, q35_, q36_, q37_, q38_, q39_, q40_, q41_, q42_, q43_, q44_, q45_, q46_, q47_, q48_, q49_, q50_, q51_, q52_, q53_, q54_, q55_, q56_, q57_, q58_, 
    q59_, q60_, q61_, q62_, q63_, q64_, q65_, q66_, q67_, q68_, q69_, q70_, q71_, q72_, q73_, q74_, q75_, q76_, q77_, q78_, q79_, q80_, q81_, q82_, q83_, q84_, q85_, q86_, q87_, q88_, q89_, q90_, q91_, 
    q92_, q93_, q94_, q95_, q96_, q97_, q98_, q99_, q100_, q101_, q102_, q103_, q104_, q105_, q106_, y107_, q108_, q109_, q110_, q111_, q112_, q113_, q114_, q115_, q116_, q117_, q118_, q119_, q120_, q121_, 
    q122_, q123_, q124_, q125_, q126_, q127_, q128_, q129_, q130_, q131_, q132_, q133_, q134_, q135_, q136_, q137_, q138_, q139_, q140_, q141_, q142_, q143_, q144_, q145_, q146_, q147_, q148_, q149_, q150_, 
    q151_, q152_, q153_, q154_, q155_, q156_, q157_, q158_, q159_, q160_, q161_, q162_, q163_, q164_, q165_, q166_, q167_, q168_, q169_, q170_, q171_, q172_, q173_, q174_, q175_, q176_, q177_, q178_, q179_, 
    q180_, q181_, q182_, q183_, q184_, q185_, q186_, q187_, q188_, q189_, q190_, q191_, q192_, q193_, q194_, q195_, q196_, q197_, q198_, q199_, q200_, q201_, q202_, q203_, q204_, q205_, q206_, q207_, q208_, 
    q209_, q210_, q211_], []⟩ (w')) :
    Code.wp Try.prog (blkReg 13) Q ⟨#[
    q0_, q1_, (.pointer (some ⟨B2, 0, none⟩)), q3_, q4_, q5_, q6_, q7_, q8_, q9_, q10_, q11_, q12_, q13_, q14_, q15_, q16_, q17_, q18_, q19_, q20_, q21_, q22_, q23_, q24_, q25_, q26_, q27_, q28_, q29_, 
    q30_, q31_, q32_, q33_, q34_, q35_, q36_, q37_, q38_, q39_, q40_, q41_, q42_, q43_, q44_, q45_, q46_, q47_, q48_, q49_, q50_, q51_, q52_, q53_, q54_, q55_, q56_, q57_, q58_, q59_, q60_, q61_, q62_, 
    q63_, q64_, q65_, q66_, q67_, q68_, q69_, q70_, q71_, q72_, q73_, q74_, q75_, q76_, q77_, q78_, q79_, q80_, q81_, q82_, q83_, q84_, q85_, q86_, q87_, q88_, q89_, q90_, q91_, q92_, q93_, q94_, q95_, 
    q96_, q97_, q98_, q99_, q100_, q101_, q102_, q103_, q104_, q105_, q106_, q107_, q108_, q109_, q110_, q111_, q112_, q113_, q114_, q115_, q116_, q117_, q118_, q119_, q120_, q121_, q122_, q123_, q124_, 
    q125_, q126_, q127_, q128_, q129_, q130_, q131_, q132_, q133_, q134_, q135_, q136_, q137_, q138_, q139_, q140_, q141_, q142_, q143_, q144_, q145_, q146_, q147_, q148_, q149_, q150_, q151_, q152_, q153_, 
    q154_, q155_, q156_, q157_, q158_, q159_, q160_, q161_, q162_, q163_, q164_, q165_, q166_, q167_, q168_, q169_, q170_, q171_, q172_, q173_, q174_, q175_, q176_, q177_, q178_, q179_, q180_, q181_, q182_, 
    q183_, q184_, q185_, q186_, q187_, q188_, q189_, q190_, q191_, q192_, q193_, q194_, q195_, q196_, q197_, q198_, q199_, q200_, q201_, q202_, q203_, q204_, q205_, q206_, q207_, q208_, q209_, q210_, q211_
    ], []⟩ w := by
  conv => arg 2; whnf
  have hr : w.rangeAt B2 0 (wordCells s.list) := h2.range 0 _ (fun j _ => by rw [Nat.zero_add])
  have hl8 : (wordCells s.list).length = 8 := by simp [wordCells, Sha.S8.list]
  go_wp2_with (first
    | (refine wpList_load_mid rfl 66 (.tmp 2) rfl B2 0 rfl (wordCells s.list) _ (by exact hr) Try.underlying66 rfl (by exact Try.sizeW8) ?_)
    | (refine wpList_run (o := ⟨some 11, _, _, _, _, _⟩) rfl (.pointer (some ⟨w.heap.size, 0, none⟩)) (w.alloc (.cells z8 66)) (by kernel_rfl) ?_)
    | (refine wpList_store_mid rfl 66 (.tmp 11) (.tmp 107) rfl w.heap.size 0 (wordCells s.list).toArray rfl rfl (by exact (Holds.new _ _ _).there 0 8 z8_le) (by exact Try.sizeW8) (by exact all_oneCell_toArray (wordCells_one _)) ?_; generalize hW2 : World.setCells _ _ _ _ = W2))
  have hT0 : Holds W2 w.heap.size 66 (wordCells s.list) := by
    have h1 := Holds.put (Holds.new w 66 z8) 0 (wordCells s.list) (by rw [hl8]; decide)
    rw [put_all _ _ (by rw [hl8]; decide), hW2] at h1
    exact h1
  have hb2 : Below w.heap.size w W2 := by
    rw [← hW2]
    exact below_setCells ((Below.refl _ _).alloc (Nat.le_refl _) _) _ _ _ (Nat.le_refl _)
  exact hQ _ _ _ (Nat.le_refl _) hT0 hb2

set_option maxRecDepth 100000 in
set_option maxHeartbeats 2000000 in
theorem blkTurn {q0_ q1_ q2_ q3_ q4_ q5_ q6_ q7_ q8_ q9_ q10_ q12_ q13_ q15_ q17_ q18_ q19_ q20_ q21_ q22_ q23_ q24_ q25_ q26_ q27_ q28_ q29_ q30_ q31_ q32_ q33_ q34_ q35_ q36_ q37_ q38_ q39_ q40_ q41_ q42_ q43_ q44_ q45_ q46_ q47_ q48_ q49_ q50_ q51_ q52_ q53_ q54_ q55_ q56_ q57_ q58_ q59_ q60_ q61_ q62_ q63_ q64_ q65_ q66_ q67_ q68_ q69_ q70_ q71_ q72_ q73_ q74_ q75_ q76_ q77_ q78_ q79_ q80_ q81_ q82_ q83_ q84_ q85_ q86_ q87_ q88_ q89_ q90_ q91_ q92_ q93_ q94_ q95_ q96_ q97_ q98_ q99_ q100_ q101_ q102_ q103_ q104_ q105_ q106_ q107_ q108_ q109_ q110_ q111_ q112_ q113_ q114_ q115_ q116_ q117_ q118_ q119_ q120_ q121_ q122_ q123_ q124_ q125_ q126_ q127_ q128_ q129_ q130_ q131_ q132_ q133_ q134_ q135_ q136_ q137_ q138_ q139_ q140_ q141_ q142_ q143_ q144_ q145_ q146_ q147_ q148_ q149_ q150_ q151_ q152_ q153_ q154_ q155_ q156_ q157_ q158_ q159_ q160_ q161_ q162_ q163_ q164_ q165_ q166_ q167_ q168_ q169_ q170_ q171_ q172_ q173_ q174_ q175_ q176_ q177_ q178_ q179_ q180_ q181_ q182_ q183_ q184_ q185_ q186_ q187_ q188_ q189_ q190_ q191_ q192_ q193_ q194_ q195_ q196_ q197_ q198_ q199_ q200_ q201_ q202_ q203_ q204_ q205_ q206_ q207_ q208_ q209_ q210_ q211_ : Value} (v : Sha.S8) (t x : BitVec 32) (BV : Nat) {w : World} (hV : Holds w BV 66 (wordCells v.list)) {Q : Exit → Act → World → Prop}
    (hQ : ∀ (y178_ y179_ y180_ y181_ y182_ y183_ y184_ y185_ y186_ y187_ y188_ y189_ y190_ y191_ y192_ y193_ y194_ y195_ y196_ y197_ : Value), Q .normal ⟨#[
    q0_, q1_, q2_, q3_, q4_, q5_, q6_, q7_, q8_, q9_, q10_, (.pointer (some ⟨BV, 0, none⟩)), q12_, q13_, (.int .u32 (u (t))), q15_, (.int .u32 (u (x))), q17_, q18_, q19_, q20_, q21_, q22_, q23_, q24_, 
    q25_, q26_, q27_, q28_, q29_, q30_, q31_, q32_, q33_, q34_, q35_, q36_, q37_, q38_, q39_, q40_, q41_, q42_, q43_, q44_, q45_, q46_, q47_, q48_, q49_, q50_, q51_, q52_, q53_, q54_, q55_, q56_, q57_, 
    q58_, q59_, q60_, q61_, q62_, q63_, q64_, q65_, q66_, q67_, q68_, q69_, q70_, q71_, q72_, q73_, q74_, q75_, q76_, q77_, q78_, q79_, q80_, q81_, q82_, q83_, q84_, q85_, q86_, q87_, q88_, q89_, q90_, 
    q91_, q92_, q93_, q94_, q95_, q96_, q97_, q98_, q99_, q100_, q101_, q102_, q103_, q104_, q105_, q106_, q107_, q108_, q109_, q110_, q111_, q112_, q113_, q114_, q115_, q116_, q117_, q118_, q119_, q120_, 
    q121_, q122_, q123_, q124_, q125_, q126_, q127_, q128_, q129_, q130_, q131_, q132_, q133_, q134_, q135_, q136_, q137_, q138_, q139_, q140_, q141_, q142_, q143_, q144_, q145_, q146_, q147_, q148_, q149_, 
    q150_, q151_, q152_, q153_, q154_, q155_, q156_, q157_, q158_, q159_, q160_, q161_, q162_, q163_, q164_, q165_, q166_, q167_, q168_, q169_, q170_, q171_, q172_, q173_, q174_, q175_, q176_, q177_, y178_, 
    y179_, y180_, y181_, y182_, y183_, y184_, y185_, y186_, y187_, y188_, y189_, y190_, y191_, y192_, y193_, y194_, y195_, y196_, y197_, q198_, q199_, q200_, q201_, q202_, q203_, q204_, q205_, q206_, q207_, 
    q208_, q209_, q210_, q211_], []⟩ (w.setCells BV 0 (wordCells (Sha.S8.list ⟨t + x, v.a, v.b, v.c, v.d + t, v.e, v.f, v.g⟩)))) :
    Code.wp Try.prog (blkReg 21) Q ⟨#[
    q0_, q1_, q2_, q3_, q4_, q5_, q6_, q7_, q8_, q9_, q10_, (.pointer (some ⟨BV, 0, none⟩)), q12_, q13_, (.int .u32 (u (t))), q15_, (.int .u32 (u (x))), q17_, q18_, q19_, q20_, q21_, q22_, q23_, q24_, 
    q25_, q26_, q27_, q28_, q29_, q30_, q31_, q32_, q33_, q34_, q35_, q36_, q37_, q38_, q39_, q40_, q41_, q42_, q43_, q44_, q45_, q46_, q47_, q48_, q49_, q50_, q51_, q52_, q53_, q54_, q55_, q56_, q57_, 
    q58_, q59_, q60_, q61_, q62_, q63_, q64_, q65_, q66_, q67_, q68_, q69_, q70_, q71_, q72_, q73_, q74_, q75_, q76_, q77_, q78_, q79_, q80_, q81_, q82_, q83_, q84_, q85_, q86_, q87_, q88_, q89_, q90_, 
    q91_, q92_, q93_, q94_, q95_, q96_, q97_, q98_, q99_, q100_, q101_, q102_, q103_, q104_, q105_, q106_, q107_, q108_, q109_, q110_, q111_, q112_, q113_, q114_, q115_, q116_, q117_, q118_, q119_, q120_, 
    q121_, q122_, q123_, q124_, q125_, q126_, q127_, q128_, q129_, q130_, q131_, q132_, q133_, q134_, q135_, q136_, q137_, q138_, q139_, q140_, q141_, q142_, q143_, q144_, q145_, q146_, q147_, q148_, q149_, 
    q150_, q151_, q152_, q153_, q154_, q155_, q156_, q157_, q158_, q159_, q160_, q161_, q162_, q163_, q164_, q165_, q166_, q167_, q168_, q169_, q170_, q171_, q172_, q173_, q174_, q175_, q176_, q177_, q178_, 
    q179_, q180_, q181_, q182_, q183_, q184_, q185_, q186_, q187_, q188_, q189_, q190_, q191_, q192_, q193_, q194_, q195_, q196_, q197_, q198_, q199_, q200_, q201_, q202_, q203_, q204_, q205_, q206_, q207_, 
    q208_, q209_, q210_, q211_], []⟩ w := by
  conv => arg 2; whnf
  have c0 : w.cell? ⟨BV, 0, none⟩ = some (.int .u32 (u v.a)) := hV.cell 0
  have c1 : w.cell? ⟨BV, 1, none⟩ = some (.int .u32 (u v.b)) := hV.cell 1
  have c2 : w.cell? ⟨BV, 2, none⟩ = some (.int .u32 (u v.c)) := hV.cell 2
  have c3 : w.cell? ⟨BV, 3, none⟩ = some (.int .u32 (u v.d)) := hV.cell 3
  have c4 : w.cell? ⟨BV, 4, none⟩ = some (.int .u32 (u v.e)) := hV.cell 4
  have c5 : w.cell? ⟨BV, 5, none⟩ = some (.int .u32 (u v.f)) := hV.cell 5
  have c6 : w.cell? ⟨BV, 6, none⟩ = some (.int .u32 (u v.g)) := hV.cell 6
  have hth : w.there BV 0 8 := hV.there 0 8 (by simp [wordCells, Sha.S8.list])
  go_wp2_with (refine wpList_store_mid rfl 66 (.tmp 11) (.tmp 197) rfl BV 0 (wordCells (Sha.S8.list ⟨t + x, v.a, v.b, v.c, v.d + t, v.e, v.f, v.g⟩)).toArray rfl rfl (by exact hth) (by exact Try.sizeW8) (by exact all_oneCell_toArray (wordCells_one _)) ?_)
  exact hQ _ _ _ _ _ _ _ _ _ _ _ _ _ _ _ _ _ _ _ _

set_option maxRecDepth 100000 in
set_option maxHeartbeats 2000000 in
theorem blkLast {q0_ q1_ q3_ q5_ q6_ q7_ q8_ q9_ q10_ q11_ q12_ q13_ q14_ q15_ q16_ q17_ q18_ q19_ q20_ q21_ q22_ q23_ q24_ q25_ q26_ q27_ q28_ q29_ q30_ q31_ q32_ q33_ q34_ q35_ q36_ q37_ q38_ q39_ q40_ q41_ q42_ q43_ q44_ q45_ q46_ q47_ q48_ q49_ q50_ q51_ q52_ q53_ q54_ q55_ q56_ q57_ q58_ q59_ q60_ q61_ q62_ q63_ q64_ q65_ q66_ q67_ q68_ q69_ q70_ q71_ q72_ q73_ q74_ q75_ q76_ q77_ q78_ q79_ q80_ q81_ q82_ q83_ q84_ q85_ q86_ q87_ q88_ q89_ q90_ q91_ q92_ q93_ q94_ q95_ q96_ q97_ q98_ q99_ q100_ q101_ q102_ q103_ q104_ q105_ q106_ q107_ q108_ q109_ q110_ q111_ q112_ q113_ q114_ q115_ q116_ q117_ q118_ q119_ q120_ q121_ q122_ q123_ q124_ q125_ q126_ q127_ q128_ q129_ q130_ q131_ q132_ q133_ q134_ q135_ q136_ q137_ q138_ q139_ q140_ q141_ q142_ q143_ q144_ q145_ q146_ q147_ q148_ q149_ q150_ q151_ q152_ q153_ q154_ q155_ q156_ q157_ q158_ q159_ q160_ q161_ q162_ q163_ q164_ q165_ q166_ q167_ q168_ q169_ q170_ q171_ q172_ q173_ q174_ q175_ q176_ q177_ q178_ q179_ q180_ q181_ q182_ q183_ q184_ q185_ q186_ q187_ q188_ q189_ q190_ q191_ q192_ q193_ q194_ q195_ q196_ q197_ q198_ q199_ q200_ q201_ q202_ q203_ q204_ q205_ q206_ q207_ q208_ q209_ q210_ q211_ : Value} (s : Sha.S8) (B2 B4 : Nat) {w : World} (h2 : Holds w B2 66 (wordCells s.list)) (h4 : w.there B4 0 8) {Q : Exit → Act → World → Prop}
    (hQ : ∀ (y211_ : Value), Q .normal ⟨#[
    q0_, q1_, (.pointer (some ⟨B2, 0, none⟩)), q3_, (.pointer (some ⟨B4, 0, none⟩)), q5_, q6_, q7_, q8_, q9_, q10_, q11_, q12_, q13_, q14_, q15_, q16_, q17_, q18_, q19_, q20_, q21_, q22_, q23_, q24_, q25_, 
    q26_, q27_, q28_, q29_, q30_, q31_, q32_, q33_, q34_, q35_, q36_, q37_, q38_, q39_, q40_, q41_, q42_, q43_, q44_, q45_, q46_, q47_, q48_, q49_, q50_, q51_, q52_, q53_, q54_, q55_, q56_, q57_, q58_, 
    q59_, q60_, q61_, q62_, q63_, q64_, q65_, q66_, q67_, q68_, q69_, q70_, q71_, q72_, q73_, q74_, q75_, q76_, q77_, q78_, q79_, q80_, q81_, q82_, q83_, q84_, q85_, q86_, q87_, q88_, q89_, q90_, q91_, 
    q92_, q93_, q94_, q95_, q96_, q97_, q98_, q99_, q100_, q101_, q102_, q103_, q104_, q105_, q106_, q107_, q108_, q109_, q110_, q111_, q112_, q113_, q114_, q115_, q116_, q117_, q118_, q119_, q120_, q121_, 
    q122_, q123_, q124_, q125_, q126_, q127_, q128_, q129_, q130_, q131_, q132_, q133_, q134_, q135_, q136_, q137_, q138_, q139_, q140_, q141_, q142_, q143_, q144_, q145_, q146_, q147_, q148_, q149_, q150_, 
    q151_, q152_, q153_, q154_, q155_, q156_, q157_, q158_, q159_, q160_, q161_, q162_, q163_, q164_, q165_, q166_, q167_, q168_, q169_, q170_, q171_, q172_, q173_, q174_, q175_, q176_, q177_, q178_, q179_, 
    q180_, q181_, q182_, q183_, q184_, q185_, q186_, q187_, q188_, q189_, q190_, q191_, q192_, q193_, q194_, q195_, q196_, q197_, q198_, q199_, q200_, q201_, q202_, q203_, q204_, q205_, q206_, q207_, q208_, 
    q209_, q210_, y211_], []⟩ (w.setCells B4 0 (wordCells s.list))) :
    Code.wp Try.prog (blkReg 26) Q ⟨#[
    q0_, q1_, (.pointer (some ⟨B2, 0, none⟩)), q3_, (.pointer (some ⟨B4, 0, none⟩)), q5_, q6_, q7_, q8_, q9_, q10_, q11_, q12_, q13_, q14_, q15_, q16_, q17_, q18_, q19_, q20_, q21_, q22_, q23_, q24_, q25_, 
    q26_, q27_, q28_, q29_, q30_, q31_, q32_, q33_, q34_, q35_, q36_, q37_, q38_, q39_, q40_, q41_, q42_, q43_, q44_, q45_, q46_, q47_, q48_, q49_, q50_, q51_, q52_, q53_, q54_, q55_, q56_, q57_, q58_, 
    q59_, q60_, q61_, q62_, q63_, q64_, q65_, q66_, q67_, q68_, q69_, q70_, q71_, q72_, q73_, q74_, q75_, q76_, q77_, q78_, q79_, q80_, q81_, q82_, q83_, q84_, q85_, q86_, q87_, q88_, q89_, q90_, q91_, 
    q92_, q93_, q94_, q95_, q96_, q97_, q98_, q99_, q100_, q101_, q102_, q103_, q104_, q105_, q106_, q107_, q108_, q109_, q110_, q111_, q112_, q113_, q114_, q115_, q116_, q117_, q118_, q119_, q120_, q121_, 
    q122_, q123_, q124_, q125_, q126_, q127_, q128_, q129_, q130_, q131_, q132_, q133_, q134_, q135_, q136_, q137_, q138_, q139_, q140_, q141_, q142_, q143_, q144_, q145_, q146_, q147_, q148_, q149_, q150_, 
    q151_, q152_, q153_, q154_, q155_, q156_, q157_, q158_, q159_, q160_, q161_, q162_, q163_, q164_, q165_, q166_, q167_, q168_, q169_, q170_, q171_, q172_, q173_, q174_, q175_, q176_, q177_, q178_, q179_, 
    q180_, q181_, q182_, q183_, q184_, q185_, q186_, q187_, q188_, q189_, q190_, q191_, q192_, q193_, q194_, q195_, q196_, q197_, q198_, q199_, q200_, q201_, q202_, q203_, q204_, q205_, q206_, q207_, q208_, 
    q209_, q210_, q211_], []⟩ w := by
  conv => arg 2; whnf
  have hr : w.rangeAt B2 0 (wordCells s.list) := h2.range 0 _ (fun j _ => by rw [Nat.zero_add])
  go_wp2_with (first
    | (refine wpList_load_mid rfl 66 (.tmp 2) rfl B2 0 rfl (wordCells s.list) _ (by exact hr) Try.underlying66 rfl (by exact Try.sizeW8) ?_)
    | (refine wpList_store_mid rfl 66 (.tmp 4) (.tmp 211) rfl B4 0 (wordCells s.list).toArray rfl rfl (by exact h4) (by exact Try.sizeW8) (by exact all_oneCell_toArray (wordCells_one _)) ?_))
  exact hQ _

set_option maxRecDepth 100000 in
theorem blkFirstA {T : Array Value} {l1 l2 l4 l5 l6 l7 l8 l9 l10 l11 l12 l13 l14 l15 l16 l17 : Value} (s : Sha.S8) {w : World} {Q : Exit → Act → World → Prop} (hL : blkLive T (s8Agg s) l1 l2 l4 l5 l6 l7 l8 l9 l10 l11 l12 l13 l14 l15 l16 l17)
    (hQ : ∀ (T' : Array Value), blkLive T' (s8Agg s) l1 (.pointer (some ⟨w.heap.size, 0, none⟩)) (.pointer (some ⟨w.heap.size + 1, 0, none⟩)) l5 l6 l7 l8 l9 l10 l11 l12 l13 l14 l15 l16 l17 → Q .normal ⟨T', []⟩ ((w.alloc (.cells (wordCells s.list).toArray 66)).alloc (.cells (Array.replicate 8 (.int .u32 0)) 66))) : Code.wp Try.prog (blkReg 0) Q ⟨T, []⟩ w := by
  rw [blkOut T hL.size]
  rw [hL.s0, hL.s1, hL.s2, hL.s4, hL.s5, hL.s6, hL.s7, hL.s8, hL.s9, hL.s10, hL.s11, hL.s12, hL.s13, hL.s14, hL.s15, hL.s16, hL.s17]
  refine blkFirst s ?_
  intros
  exact hQ _ ⟨rfl, rfl, rfl, rfl, rfl, rfl, rfl, rfl, rfl, rfl, rfl, rfl, rfl, rfl, rfl, rfl, rfl, rfl⟩

set_option maxRecDepth 100000 in
theorem blkTableA {T : Array Value} {l0 l1 l2 l4 l5 l6 l7 l8 l9 l10 l11 l12 l13 l14 l15 l16 l17 : Value} {w : World} {Q : Exit → Act → World → Prop} (hL : blkLive T l0 l1 l2 l4 l5 l6 l7 l8 l9 l10 l11 l12 l13 l14 l15 l16 l17)
    (hQ : ∀ (T' : Array Value) (BT : Nat) (w' : World) (_ : w.heap.size ≤ BT) (_ : Holds w' BT 93 (wordCells Sha.ks)) (_ : Below w.heap.size w w'), blkLive T' l0 l1 l2 l4 (.pointer (some ⟨BT, 0, none⟩)) l6 l7 l8 l9 l10 l11 l12 l13 l14 l15 l16 l17 → Q .normal ⟨T', []⟩ (w')) : Code.wp Try.prog (blkReg 1) Q ⟨T, []⟩ w := by
  rw [blkOut T hL.size]
  rw [hL.s0, hL.s1, hL.s2, hL.s4, hL.s5, hL.s6, hL.s7, hL.s8, hL.s9, hL.s10, hL.s11, hL.s12, hL.s13, hL.s14, hL.s15, hL.s16, hL.s17]
  refine blkTable  ?_
  intro _ BT w' hl hT hb
  exact hQ _ BT w' hl hT hb ⟨rfl, rfl, rfl, rfl, rfl, rfl, rfl, rfl, rfl, rfl, rfl, rfl, rfl, rfl, rfl, rfl, rfl, rfl⟩

set_option maxRecDepth 100000 in
theorem blkZeroA {T : Array Value} {l0 l1 l2 l4 l5 l6 l7 l8 l9 l10 l11 l12 l13 l14 l15 l16 l17 : Value} {w : World} {Q : Exit → Act → World → Prop} (hL : blkLive T l0 l1 l2 l4 l5 l6 l7 l8 l9 l10 l11 l12 l13 l14 l15 l16 l17)
    (hQ : ∀ (T' : Array Value), blkLive T' l0 l1 l2 l4 l5 (.pointer (some ⟨w.heap.size, 0, none⟩)) l7 l8 l9 l10 l11 l12 l13 l14 l15 l16 l17 → Q .normal ⟨T', []⟩ (w.alloc (.cells z64 93))) : Code.wp Try.prog (blkReg 2) Q ⟨T, []⟩ w := by
  rw [blkOut T hL.size]
  rw [hL.s0, hL.s1, hL.s2, hL.s4, hL.s5, hL.s6, hL.s7, hL.s8, hL.s9, hL.s10, hL.s11, hL.s12, hL.s13, hL.s14, hL.s15, hL.s16, hL.s17]
  refine blkZero  ?_
  intros
  exact hQ _ ⟨rfl, rfl, rfl, rfl, rfl, rfl, rfl, rfl, rfl, rfl, rfl, rfl, rfl, rfl, rfl, rfl, rfl, rfl⟩

set_option maxRecDepth 100000 in
theorem blkCopyA {T : Array Value} {l0 l1 l4 l5 l6 l7 l8 l9 l10 l11 l12 l13 l14 l15 l16 l17 : Value} (s : Sha.S8) (B2 : Nat) {w : World} (h2 : Holds w B2 66 (wordCells s.list)) {Q : Exit → Act → World → Prop} (hL : blkLive T l0 l1 (.pointer (some ⟨B2, 0, none⟩)) l4 l5 l6 l7 l8 l9 l10 l11 l12 l13 l14 l15 l16 l17)
    (hQ : ∀ (T' : Array Value) (BV : Nat) (w' : World) (_ : w.heap.size ≤ BV) (_ : Holds w' BV 66 (wordCells s.list)) (_ : Below w.heap.size w w'), blkLive T' l0 l1 (.pointer (some ⟨B2, 0, none⟩)) l4 l5 l6 l7 l8 l9 l10 (.pointer (some ⟨BV, 0, none⟩)) l12 l13 l14 l15 l16 l17 → Q .normal ⟨T', []⟩ (w')) : Code.wp Try.prog (blkReg 13) Q ⟨T, []⟩ w := by
  rw [blkOut T hL.size]
  rw [hL.s0, hL.s1, hL.s2, hL.s4, hL.s5, hL.s6, hL.s7, hL.s8, hL.s9, hL.s10, hL.s11, hL.s12, hL.s13, hL.s14, hL.s15, hL.s16, hL.s17]
  refine blkCopy s B2 h2 ?_
  intro _ BV w' hl hV hb
  exact hQ _ BV w' hl hV hb ⟨rfl, rfl, rfl, rfl, rfl, rfl, rfl, rfl, rfl, rfl, rfl, rfl, rfl, rfl, rfl, rfl, rfl, rfl⟩

set_option maxRecDepth 100000 in
theorem blkTurnA {T : Array Value} {l0 l1 l2 l4 l5 l6 l7 l8 l9 l10 l12 l13 l15 l17 : Value} (v : Sha.S8) (t x : BitVec 32) (BV : Nat) {w : World} (hV : Holds w BV 66 (wordCells v.list)) {Q : Exit → Act → World → Prop} (hL : blkLive T l0 l1 l2 l4 l5 l6 l7 l8 l9 l10 (.pointer (some ⟨BV, 0, none⟩)) l12 l13 (.int .u32 (u (t))) l15 (.int .u32 (u (x))) l17)
    (hQ : ∀ (T' : Array Value), blkLive T' l0 l1 l2 l4 l5 l6 l7 l8 l9 l10 (.pointer (some ⟨BV, 0, none⟩)) l12 l13 (.int .u32 (u (t))) l15 (.int .u32 (u (x))) l17 → Q .normal ⟨T', []⟩ (w.setCells BV 0 (wordCells (Sha.S8.list ⟨t + x, v.a, v.b, v.c, v.d + t, v.e, v.f, v.g⟩)))) : Code.wp Try.prog (blkReg 21) Q ⟨T, []⟩ w := by
  rw [blkOut T hL.size]
  rw [hL.s0, hL.s1, hL.s2, hL.s4, hL.s5, hL.s6, hL.s7, hL.s8, hL.s9, hL.s10, hL.s11, hL.s12, hL.s13, hL.s14, hL.s15, hL.s16, hL.s17]
  refine blkTurn v t x BV hV ?_
  intros
  exact hQ _ ⟨rfl, rfl, rfl, rfl, rfl, rfl, rfl, rfl, rfl, rfl, rfl, rfl, rfl, rfl, rfl, rfl, rfl, rfl⟩

set_option maxRecDepth 100000 in
theorem blkLastA {T : Array Value} {l0 l1 l5 l6 l7 l8 l9 l10 l11 l12 l13 l14 l15 l16 l17 : Value} (s : Sha.S8) (B2 B4 : Nat) {w : World} (h2 : Holds w B2 66 (wordCells s.list)) (h4 : w.there B4 0 8) {Q : Exit → Act → World → Prop} (hL : blkLive T l0 l1 (.pointer (some ⟨B2, 0, none⟩)) (.pointer (some ⟨B4, 0, none⟩)) l5 l6 l7 l8 l9 l10 l11 l12 l13 l14 l15 l16 l17)
    (hQ : ∀ (T' : Array Value), blkLive T' l0 l1 (.pointer (some ⟨B2, 0, none⟩)) (.pointer (some ⟨B4, 0, none⟩)) l5 l6 l7 l8 l9 l10 l11 l12 l13 l14 l15 l16 l17 → Q .normal ⟨T', []⟩ (w.setCells B4 0 (wordCells s.list))) : Code.wp Try.prog (blkReg 26) Q ⟨T, []⟩ w := by
  rw [blkOut T hL.size]
  rw [hL.s0, hL.s1, hL.s2, hL.s4, hL.s5, hL.s6, hL.s7, hL.s8, hL.s9, hL.s10, hL.s11, hL.s12, hL.s13, hL.s14, hL.s15, hL.s16, hL.s17]
  refine blkLast s B2 B4 h2 h4 ?_
  intros
  exact hQ _ ⟨rfl, rfl, rfl, rfl, rfl, rfl, rfl, rfl, rfl, rfl, rfl, rfl, rfl, rfl, rfl, rfl, rfl, rfl⟩

end Go.Proofs.Ytenfhmpjhbpkpaa
