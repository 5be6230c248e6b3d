/- Regions of sha.mix, one by one. Made by tools/regions.py. -/
import Derived.Test.YtenfhmpjhbpkpaaMixBase
namespace Go.Proofs.Ytenfhmpjhbpkpaa
open Go.RowKit
attribute [local go_sem] u_add u_wrap_add u_or u_and u_xor

set_option maxRecDepth 100000 in
set_option maxHeartbeats 2000000 in
theorem mixWord {q0_ q2_ q3_ q4_ q7_ q8_ q9_ q10_ q11_ q12_ q13_ q14_ q15_ q16_ q17_ q18_ q19_ q20_ q21_ q22_ q23_ q24_ q25_ q26_ q27_ q28_ q29_ q30_ q31_ q32_ q33_ q34_ q35_ q36_ q37_ q38_ q39_ q40_ q41_ q42_ q43_ q44_ q45_ q46_ q47_ q48_ q49_ q50_ q51_ q52_ q53_ q54_ q55_ q56_ q57_ q58_ q59_ q60_ q61_ q62_ q63_ q64_ q65_ q66_ q67_ q68_ q69_ q70_ q71_ q72_ q73_ q74_ q75_ q76_ q77_ q78_ q79_ q80_ q81_ q82_ q83_ q84_ q85_ q86_ q87_ q88_ q89_ q90_ q91_ q92_ q93_ q94_ q95_ q96_ q97_ q98_ q99_ q100_ q101_ q102_ q103_ q104_ q105_ q106_ q107_ q108_ q109_ q110_ q111_ q112_ q113_ q114_ q115_ q116_ q117_ q118_ q119_ q120_ q121_ q122_ q123_ q124_ q125_ q126_ q127_ q128_ q129_ q130_ q131_ q132_ q133_ q134_ q135_ q136_ q137_ q138_ q139_ q140_ q141_ q142_ q143_ q144_ q145_ q146_ q147_ q148_ q149_ q150_ q151_ q152_ q153_ q154_ q155_ q156_ q157_ q158_ q159_ q160_ q161_ q162_ q163_ q164_ q165_ q166_ q167_ q168_ q169_ q170_ q171_ q172_ q173_ q174_ q175_ q176_ q177_ q178_ q179_ q180_ q181_ q182_ q183_ q184_ q185_ q186_ q187_ q188_ q189_ q190_ q191_ q192_ q193_ q194_ q195_ q196_ q197_ q198_ q199_ q200_ q201_ q202_ q203_ q204_ q205_ q206_ q207_ q208_ q209_ q210_ q211_ q212_ q213_ q214_ q215_ q216_ q217_ q218_ q219_ q220_ q221_ q222_ q223_ q224_ q225_ q226_ q227_ q228_ q229_ q230_ q231_ q232_ q233_ q234_ q235_ q236_ q237_ q238_ q239_ q240_ q241_ q242_ q243_ q244_ q245_ q246_ q247_ q248_ q249_ q250_ q251_ q252_ q253_ q254_ q255_ q256_ q257_ q258_ q259_ q260_ q261_ q262_ q263_ q264_ q265_ q266_ q267_ q268_ q269_ q270_ q271_ q272_ q273_ q274_ q275_ q276_ q277_ q278_ q279_ q280_ q281_ q282_ q283_ q284_ q285_ q286_ q287_ q288_ q289_ q290_ q291_ q292_ q293_ q294_ q295_ q296_ q297_ q298_ q299_ q300_ q301_ q302_ q303_ q304_ q305_ q306_ q307_ q308_ q309_ q310_ q311_ q312_ q313_ q314_ q315_ q316_ q317_ q318_ q319_ q320_ q321_ q322_ q323_ q324_ q325_ q326_ q327_ q328_ q329_ q330_ q331_ q332_ q333_ q334_ q335_ q336_ q337_ q338_ q339_ q340_ q341_ q342_ q343_ q344_ q345_ q346_ q347_ q348_ q349_ q350_ q351_ q352_ q353_ q354_ q355_ q356_ q357_ q358_ q359_ q360_ q361_ q362_ q363_ q364_ q365_ q366_ q367_ q368_ q369_ q370_ q371_ q372_ q373_ q374_ q375_ q376_ q377_ q378_ q379_ q380_ q381_ q382_ q383_ q384_ q385_ q386_ q387_ q388_ q389_ q390_ q391_ q392_ q393_ q394_ q395_ : Value} (x0 x1 x2 x3 : BitVec 32) (g BW k : Nat) (hk : k < 16) {w : World} (v0 : Value) (c0 : w.cell? ⟨g, 8 + 4 * k, none⟩ = some (.int .u8 (u x0))) (c1 : w.cell? ⟨g, 8 + (4 * k + 1), none⟩ = some (.int .u8 (u x1))) (c2 : w.cell? ⟨g, 8 + (4 * k + 2), none⟩ = some (.int .u8 (u x2))) (c3 : w.cell? ⟨g, 8 + (4 * k + 3), none⟩ = some (.int .u8 (u x3)))
    (b0 : 0 ≤ u x0 ∧ u x0 ≤ 255) (b1 : 0 ≤ u x1 ∧ u x1 ≤ 255) (b2 : 0 ≤ u x2 ∧ u x2 ≤ 255) (b3 : 0 ≤ u x3 ∧ u x3 ≤ 255) (cw : w.cell? ⟨BW, k, none⟩ = some v0) (cf : w.frozen? ⟨BW, k, none⟩ = false) {Q : Exit → Act → World → Prop}
    (hQ : ∀ (y23_ y24_ y25_ y26_ y27_ y28_ y29_ y30_ y31_ y32_ y33_ y34_ y35_ y36_ y37_ y38_ y39_ y40_ y41_ y42_ y43_ y44_ y45_ y46_ y47_ y48_ y49_ y50_ y51_ y52_ y53_ y54_ y55_ y56_ y57_ y58_ y59_ y60_ y61_ : Value), Q .normal ⟨#[
    q0_, (.pointer (some ⟨g, 8, none⟩)), q2_, q3_, q4_, (.pointer (some ⟨BW, 0, none⟩)), (.int .i64 (k : Int)), q7_, q8_, q9_, q10_, q11_, q12_, q13_, q14_, q15_, q16_, q17_, q18_, q19_, q20_, q21_, q22_, 
    y23_, y24_, y25_, y26_, y27_, y28_, y29_, y30_, y31_, y32_, y33_, y34_, y35_, y36_, y37_, y38_, y39_, y40_, y41_, y42_, y43_, y44_, y45_, y46_, y47_, y48_, y49_, y50_, y51_, y52_, y53_, y54_, y55_, 
    y56_, y57_, y58_, y59_, y60_, y61_, q62_, q63_, q64_, q65_, q66_, q67_, q68_, q69_, q70_, q71_, q72_, q73_, q74_, q75_, q76_, q77_, q78_, q79_, q80_, q81_, q82_, q83_, q84_, q85_, q86_, q87_, q88_, 
    q89_, q90_, q91_, q92_, q93_, q94_, q95_, q96_, q97_, q98_, q99_, q100_, q101_, q102_, q103_, q104_, q105_, q106_, q107_, q108_, q109_, q110_, q111_, q112_, q113_, q114_, q115_, q116_, q117_, q118_, 
    q119_, q120_, q121_, q122_, q123_, q124_, q125_, q126_, q127_, q128_, q129_, q130_, q131_, q132_, q133_, q134_, q135_, q136_, q137_, q138_, q139_, q140_, q141_, q142_, q143_, q144_, q145_, q146_, q147_, 
    q148_, q149_, q150_, q151_, q152_, q153_, q154_, q155_, q156_, q157_, q158_, q159_, q160_, q161_, q162_, q163_, q164_, q165_, q166_, q167_, q168_, q169_, q170_, q171_, q172_, q173_, q174_, q175_, q176_, 
    q177_, q178_, q179_, q180_, q181_, q182_, q183_, q184_, q185_, q186_, q187_, q188_, q189_, q190_, q191_, q192_, q193_, q194_, q195_, q196_, q197_, q198_, q199_, q200_, q201_, q202_, q203_, q204_, q205_, 
    q206_, q207_, q208_, q209_, q210_, q211_, q212_, q213_, q214_, q215_, q216_, q217_, q218_, q219_, q220_, q221_, q222_, q223_, q224_, q225_, q226_, q227_, q228_, q229_, q230_, q231_, q232_, q233_, q234_, 
    q235_, q236_, q237_, q238_, q239_, q240_, q241_, q242_, q243_, q244_, q245_, q246_, q247_, q248_, q249_, q250_, q251_, q252_, q253_, q254_, q255_, q256_, q257_, q258_, q259_, q260_, q261_, q262_, q263_, 
    q264_, q265_, q266_, q267_, q268_, q269_, q270_, q271_, q272_, q273_, q274_, q275_, q276_, q277_, q278_, q279_, q280_, q281_, q282_, q283_, q284_, q285_, q286_, q287_, q288_, q289_, q290_, q291_, q292_, 
    q293_, q294_, q295_, q296_, q297_, q298_, q299_, q300_, q301_, q302_, q303_, q304_, q305_, q306_, q307_, q308_, q309_, q310_, q311_, q312_, q313_, q314_, q315_, q316_, q317_, q318_, q319_, q320_, q321_, 
    q322_, q323_, q324_, q325_, q326_, q327_, q328_, q329_, q330_, q331_, q332_, q333_, q334_, q335_, q336_, q337_, q338_, q339_, q340_, q341_, q342_, q343_, q344_, q345_, q346_, q347_, q348_, q349_, q350_, 
    q351_, q352_, q353_, q354_, q355_, q356_, q357_, q358_, q359_, q360_, q361_, q362_, q363_, q364_, q365_, q366_, q367_, q368_, q369_, q370_, q371_, q372_, q373_, q374_, q375_, q376_, q377_, q378_, q379_, 
    q380_, q381_, q382_, q383_, q384_, q385_, q386_, q387_, q388_, q389_, q390_, q391_, q392_, q393_, q394_, q395_], []⟩ ((w.setCell ⟨BW, k, none⟩ (.int .u32 (u (x0 <<< 24 ||| x1 <<< 16 ||| x2 <<< 8 ||| x3)))).drew)) :
    Code.wp Try.prog (mixReg 5) Q ⟨#[
    q0_, (.pointer (some ⟨g, 8, none⟩)), q2_, q3_, q4_, (.pointer (some ⟨BW, 0, none⟩)), (.int .i64 (k : Int)), q7_, q8_, q9_, q10_, q11_, q12_, q13_, q14_, q15_, q16_, q17_, q18_, q19_, q20_, q21_, q22_, 
    q23_, q24_, q25_, q26_, q27_, q28_, q29_, q30_, q31_, q32_, q33_, q34_, q35_, q36_, q37_, q38_, q39_, q40_, q41_, q42_, q43_, q44_, q45_, q46_, q47_, q48_, q49_, q50_, q51_, q52_, q53_, q54_, q55_, 
    q56_, q57_, q58_, q59_, q60_, q61_, q62_, q63_, q64_, q65_, q66_, q67_, q68_, q69_, q70_, q71_, q72_, q73_, q74_, q75_, q76_, q77_, q78_, q79_, q80_, q81_, q82_, q83_, q84_, q85_, q86_, q87_, q88_, 
    q89_, q90_, q91_, q92_, q93_, q94_, q95_, q96_, q97_, q98_, q99_, q100_, q101_, q102_, q103_, q104_, q105_, q106_, q107_, q108_, q109_, q110_, q111_, q112_, q113_, q114_, q115_, q116_, q117_, q118_, 
    q119_, q120_, q121_, q122_, q123_, q124_, q125_, q126_, q127_, q128_, q129_, q130_, q131_, q132_, q133_, q134_, q135_, q136_, q137_, q138_, q139_, q140_, q141_, q142_, q143_, q144_, q145_, q146_, q147_, 
    q148_, q149_, q150_, q151_, q152_, q153_, q154_, q155_, q156_, q157_, q158_, q159_, q160_, q161_, q162_, q163_, q164_, q165_, q166_, q167_, q168_, q169_, q170_, q171_, q172_, q173_, q174_, q175_, q176_, 
    q177_, q178_, q179_, q180_, q181_, q182_, q183_, q184_, q185_, q186_, q187_, q188_, q189_, q190_, q191_, q192_, q193_, q194_, q195_, q196_, q197_, q198_, q199_, q200_, q201_, q202_, q203_, q204_, q205_, 
    q206_, q207_, q208_, q209_, q210_, q211_, q212_, q213_, q214_, q215_, q216_, q217_, q218_, q219_, q220_, q221_, q222_, q223_, q224_, q225_, q226_, q227_, q228_, q229_, q230_, q231_, q232_, q233_, q234_, 
    q235_, q236_, q237_, q238_, q239_, q240_, q241_, q242_, q243_, q244_, q245_, q246_, q247_, q248_, q249_, q250_, q251_, q252_, q253_, q254_, q255_, q256_, q257_, q258_, q259_, q260_, q261_, q262_, q263_, 
    q264_, q265_, q266_, q267_, q268_, q269_, q270_, q271_, q272_, q273_, q274_, q275_, q276_, q277_, q278_, q279_, q280_, q281_, q282_, q283_, q284_, q285_, q286_, q287_, q288_, q289_, q290_, q291_, q292_, 
    q293_, q294_, q295_, q296_, q297_, q298_, q299_, q300_, q301_, q302_, q303_, q304_, q305_, q306_, q307_, q308_, q309_, q310_, q311_, q312_, q313_, q314_, q315_, q316_, q317_, q318_, q319_, q320_, q321_, 
    q322_, q323_, q324_, q325_, q326_, q327_, q328_, q329_, q330_, q331_, q332_, q333_, q334_, q335_, q336_, q337_, q338_, q339_, q340_, q341_, q342_, q343_, q344_, q345_, q346_, q347_, q348_, q349_, q350_, 
    q351_, q352_, q353_, q354_, q355_, q356_, q357_, q358_, q359_, q360_, q361_, q362_, q363_, q364_, q365_, q366_, q367_, q368_, q369_, q370_, q371_, q372_, q373_, q374_, q375_, q376_, q377_, q378_, q379_, 
    q380_, q381_, q382_, q383_, q384_, q385_, q386_, q387_, q388_, q389_, q390_, q391_, q392_, q393_, q394_, q395_], []⟩ w := by
  conv => arg 2; whnf
  have s0 : IntKind.i64.wrap (4 * (k : Int)) = 4 * (k : Int) := IntWalk.i64_in _ (by omega)
  have p0 : 0 ≤ 4 * (k : Int) := by omega
  have q0 : 4 * (k : Int) < 64 := by omega
  have n0 : (4 * (k : Int)).toNat = 4 * k := by omega
  have s1 : IntKind.i64.wrap (4 * (k : Int) + 1) = 4 * (k : Int) + 1 := IntWalk.i64_in _ (by omega)
  have p1 : 0 ≤ 4 * (k : Int) + 1 := by omega
  have q1 : 4 * (k : Int) + 1 < 64 := by omega
  have n1 : (4 * (k : Int) + 1).toNat = 4 * k + 1 := by omega
  have s2 : IntKind.i64.wrap (4 * (k : Int) + 2) = 4 * (k : Int) + 2 := IntWalk.i64_in _ (by omega)
  have p2 : 0 ≤ 4 * (k : Int) + 2 := by omega
  have q2 : 4 * (k : Int) + 2 < 64 := by omega
  have n2 : (4 * (k : Int) + 2).toNat = 4 * k + 2 := by omega
  have s3 : IntKind.i64.wrap (4 * (k : Int) + 3) = 4 * (k : Int) + 3 := IntWalk.i64_in _ (by omega)
  have p3 : 0 ≤ 4 * (k : Int) + 3 := by omega
  have q3 : 4 * (k : Int) + 3 < 64 := by omega
  have n3 : (4 * (k : Int) + 3).toNat = 4 * k + 3 := by omega
  have q4 : (k : Int) < 64 := by omega
  go_still_tail 39, (by kernel_rfl)
  clear s0 s1 s2 s3 n0 n1 n2 n3
  change wpList _ _ _ _ _ w.drew
  go_wp2
  rw [u_byte24 x0 b0, u_byte16 x1 b1, u_byte8 x2 b2, u_or, u_or, u_or]
  exact hQ _ _ _ _ _ _ _ _ _ _ _ _ _ _ _ _ _ _ _ _ _ _ _ _ _ _ _ _ _ _ _ _ _ _ _ _ _ _ _

set_option maxRecDepth 100000 in
theorem mixWordA {T : Array Value} {l0 l4 l7 l8 l9 l10 l11 l12 l13 l14 l15 l16 l17 l18 l20 : Value} (x0 x1 x2 x3 : BitVec 32) (g BW k : Nat) (hk : k < 16) {w : World} (v0 : Value) (c0 : w.cell? ⟨g, 8 + 4 * k, none⟩ = some (.int .u8 (u x0))) (c1 : w.cell? ⟨g, 8 + (4 * k + 1), none⟩ = some (.int .u8 (u x1))) (c2 : w.cell? ⟨g, 8 + (4 * k + 2), none⟩ = some (.int .u8 (u x2))) (c3 : w.cell? ⟨g, 8 + (4 * k + 3), none⟩ = some (.int .u8 (u x3)))
    (b0 : 0 ≤ u x0 ∧ u x0 ≤ 255) (b1 : 0 ≤ u x1 ∧ u x1 ≤ 255) (b2 : 0 ≤ u x2 ∧ u x2 ≤ 255) (b3 : 0 ≤ u x3 ∧ u x3 ≤ 255) (cw : w.cell? ⟨BW, k, none⟩ = some v0) (cf : w.frozen? ⟨BW, k, none⟩ = false) {Q : Exit → Act → World → Prop} (hL : mixLive T l0 (.pointer (some ⟨g, 8, none⟩)) l4 (.pointer (some ⟨BW, 0, none⟩)) (.int .i64 (k : Int)) l7 l8 l9 l10 l11 l12 l13 l14 l15 l16 l17 l18 l20)
    (hQ : ∀ (T' : Array Value), mixLive T' l0 (.pointer (some ⟨g, 8, none⟩)) l4 (.pointer (some ⟨BW, 0, none⟩)) (.int .i64 (k : Int)) l7 l8 l9 l10 l11 l12 l13 l14 l15 l16 l17 l18 l20 → Q .normal ⟨T', []⟩ ((w.setCell ⟨BW, k, none⟩ (.int .u32 (u (x0 <<< 24 ||| x1 <<< 16 ||| x2 <<< 8 ||| x3)))).drew)) : Code.wp Try.prog (mixReg 5) Q ⟨T, []⟩ w := by
  rw [mixOut T hL.size]
  rw [hL.s0, hL.s1, hL.s4, hL.s5, hL.s6, hL.s7, hL.s8, hL.s9, hL.s10, hL.s11, hL.s12, hL.s13, hL.s14, hL.s15, hL.s16, hL.s17, hL.s18, hL.s20]
  refine mixWord x0 x1 x2 x3 g BW k hk v0 c0 c1 c2 c3 b0 b1 b2 b3 cw cf ?_
  intros
  exact hQ _ ⟨rfl, rfl, rfl, rfl, rfl, rfl, rfl, rfl, rfl, rfl, rfl, rfl, rfl, rfl, rfl, rfl, rfl, rfl, rfl⟩

end Go.Proofs.Ytenfhmpjhbpkpaa
