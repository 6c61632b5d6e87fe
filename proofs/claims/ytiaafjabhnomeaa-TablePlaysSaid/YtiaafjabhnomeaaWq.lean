/- Regions that draw nothing, walked quietly (cheap where many operations are guarded). No function of the program is spoken of here. -/
import Derived.Test.YtiaafjabhnomeaaWr
namespace Go.Proofs.Ytiaafjabhnomeaa.Ad
open Go.RowKit Go.Sort St
set_option linter.unusedVariables false

/-- what is walked quietly is walked: of a list -/
theorem wpList_of_quiet {ops : Array Oper} {C : World → Prop} {Qa : Act → Prop} {Q : Exit → Act → World → Prop} (hQ : ∀ a w, C w → Qa a → Q .normal a w) : ∀ (l : List Oper) (a : Act) (w : World), C w → wpQuiet Try.prog ops C Qa l a → wpList Try.prog ops Q l a w
  | [], a, w, hC, h => hQ a w hC h
  | o :: rest, a, w, hC, h => wpList_step fun K hK => by
    unfold wpQuiet at h
    split
    · rename_i hw
      rw [if_pos hw] at h
      exact Oper.wp_of_quiet hC (fun a w' hC' hk => hK a w' (wpList_of_quiet hQ rest a w' hC' hk)) h
    · rename_i hw
      rw [if_neg hw] at h
      exact hK _ _ (wpList_of_quiet hQ rest _ w hC h)
/-- a region that draws nothing, walked quietly -/
theorem wp_region_quietly {id : Nat} {Q : Exit → Act → World → Prop} {a : Act} {w : World} {l : List Oper} {C : World → Prop} (hC : C w)
    (h : wpQuiet Try.prog l.toArray C (fun a' => ∀ w', C w' → Q .normal a' w') l a) : (Code.region id l.toArray false).wp Try.prog Q a w :=
  wp_region_lit (wpList_of_quiet (fun _ w' hw' h => h w' hw') l a w hC h)

end Go.Proofs.Ytiaafjabhnomeaa.Ad
