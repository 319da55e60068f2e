/-
  The contract of the reader's tagsAndType.
-/
import Derived.Test.YtlpapncgcgllfaaRead1
namespace Go.Proofs.Ytlpapncgcgllfaa
open Go.RowKit Go.PlainAid
/-- what has been read: the tags, the type, where the reader stands, whether it has failed -/
structure Rt where
  l : List Int
  t : Int
  p : Int
  f : Bool
def tgo (s : ByteArray) : Nat → List Int → Int → Int → Bool → Rt
  | 0, l, t, p, f => ⟨l, t, p, f⟩
  | n + 1, l, t, p, f => if t = 33024 then tgo s n (l ++ [numAt s p 2]) (numAt s (nextP s p 2) 2) (nextP s (nextP s p 2) 2) (nextF s (nextP s p 2) 2 (nextF s p 2 f)) else ⟨l, t, p, f⟩
def tread (s : ByteArray) (p : Int) (f : Bool) : Rt := tgo s 2 [] (numAt s p 2) (nextP s p 2) (nextF s p 2 f)
theorem Box.belowB {W W' : World} {b B : Nat} {vs : List Value} (h : Box W b vs) (hb : Below B W W') (hB : b < B) : Box W' b vs :=
  ⟨Nat.lt_of_lt_of_le h.1 hb.size, fun i v hi => (hb.cell (p := ⟨b, i, none⟩) hB).trans (h.2 i v hi)⟩
theorem Free.belowB {W W' : World} {b B : Nat} (h : Free W b) (hb : Below B W W') (hB : b < B) : Free W' b :=
  ⟨Nat.lt_of_lt_of_le h.1 hb.size, fun j => (hb.frozen (p := ⟨b, j, none⟩) hB).trans (h.2 j)⟩
theorem ownI.by {w w' : World} {B b : Nat} {v : Value} {l : List Int} (h : ownI w B v l) (k : w.grownBy w' (some b)) (hb : b < B) : ownI w' B v l :=
  ((ownI.in h).by k (fun i e => by cases e; exact .inl hb)).own
theorem grownBy_on {w w' w'' : World} {r : Option Nat} (h : w.grownBy w' r) (k : Below w.heap.size w' w'') : w.grownBy w'' r :=
  ⟨k.os.trans h.os, k.tape.trans h.tape, k.output.trans h.output, Nat.le_trans h.size k.size, fun i hi hr => (k.block i hi).trans (h.block i hi hr)⟩
def lenOf : Value → Nat | .slice _ n _ => n | _ => 0

set_option maxRecDepth 100000 in
set_option maxHeartbeats 1600000 in
theorem i_tagsAndType (s : ByteArray) (p : Int) (f : Bool) (b : Nat) (w : World) (hA : Box w b (rdv s p f)) (hF : Free w b) (hs : s.size ≤ maxLen) (hp : 0 ≤ p) (hp2 : p ≤ s.size) (hs2 : s.size ≤ 1099511627776) :
    Calls Try.prog 29 #[.pointer (some ⟨b, 0, none⟩)] w fun e w' => ∃ v, e = .returned (.tuple #[v, .int .i64 (tread s p f).t]) ∧ ownI w' w.heap.size v (tread s p f).l ∧ RdTo w w' b s (tread s p f).p (tread s p f).f ∧ 0 ≤ (tread s p f).p ∧ (tread s p f).p ≤ s.size := by
  obtain ⟨R, hR⟩ : ∃ R, R = tread s p f := ⟨_, rfl⟩
  have hbw := hA.1
  have HR : Hid (tgo s 2 [] (numAt s p 2) (nextP s p 2) (nextF s p 2 f) = R) := hR.symm
  rw [← hR]
  clear hR
  go_enter Try.func29, Try.ntmps29
  go_wp2_with fail
  refine (i_number s p 2 f b _ hA hF hs hp hp2 (by decide) (by decide) hs2).mono ?_
  rintro e w1 ⟨rfl, hr1⟩
  have hP := nextP_in (k := 2) hp hp2 (by decide)
  go_wp2_with fail
  go_loopw [4, 5] (fun v kd wr => ∃ (tags : List Int) (kind p : Int) (f : Bool), kd = .int .i64 kind ∧ Hid (tgo s (2 - tags.length) tags kind p f = R) ∧ tags.length ≤ 2 ∧ ownI wr w.heap.size v tags ∧ Box wr b (rdv s p f) ∧ Free wr b ∧ w.grownBy wr (some b) ∧ 0 ≤ p ∧ p ≤ s.size) (fun v _ _ => 2 - lenOf v)
  case atStart => exact ⟨[], _, _, _, rfl, HR, by simp, ownI.nil _ _, hr1.box, hr1.free, hr1.grown, hP.1, hP.2⟩
  case round =>
    clear hA hF hr1 hP HR hp hp2
    obtain ⟨tags, kind, p, f, rfl, HG, hl2, hown, hA, hF, hg, hp, hp2⟩ := hrel
    obtain ⟨Tv, cv, rfl⟩ := hown.form
    by_cases hk : kind = 33024
    · by_cases hlt : tags.length < 2
      · subst hk
        have hlt' : (tags.length : Int) < 2 := by omega
        have HG' : Hid (tgo s (2 - (tags ++ [numAt s p 2]).length) (tags ++ [numAt s p 2]) (numAt s (nextP s p 2) 2) (nextP s (nextP s p 2) 2) (nextF s (nextP s p 2) 2 (nextF s p 2 f)) = R) := by
          have e := HG.out
          rw [show 2 - tags.length = (2 - (tags ++ [numAt s p 2]).length) + 1 by simp; omega] at e
          rw [tgo, if_pos rfl] at e
          exact e
        clear HG
        go_wp2_with fail
        refine (i_number s p 2 f b _ hA hF hs hp hp2 (by decide) (by decide) hs2).mono ?_
        rintro e w2 ⟨rfl, hr2⟩
        have hP := nextP_in (k := 2) hp hp2 (by decide)
        have hown2 := hown.by hr2.grown hbw
        have hA2 := hr2.box
        have hF2 := hr2.free
        have hg2 := grownBy_trans hg hr2.grown
        have hz2 : w.heap.size ≤ w2.heap.size := hg2.size
        clear hr2 hA hF hg hown
        go_wp2_with (at_builtin; go_loud (refine wpList_append_src rfl _ _ rfl w.heap.size _ _ rfl (hown2.alloc _) _ [numAt s p 2] rfl (ownI.lit w2 w.heap.size _ hz2).src (by simp; omega) (by simp; omega) ?_; intro va w3 hoa hba; have hba' : Below w.heap.size w2 w3 := ((Below.refl _ w2).alloc hz2 _).trans hba; have hA3 := hA2.belowB hba' hbw; have hF3 := hF2.belowB hba' hbw; have hg3 := grownBy_on hg2 hba'; obtain ⟨Tw, cw, rfl⟩ := hoa.form; have HOA : Hid (ownI w3 w.heap.size (.slice Tw (tags ++ [numAt s p 2]).length cw) (tags ++ [numAt s p 2])) := hoa; clear hoa hba hba' hA2 hF2 hg2 hown2))
        refine (i_number s (nextP s p 2) 2 (nextF s p 2 f) b _ hA3 hF3 hs hP.1 hP.2 (by decide) (by decide) hs2).mono ?_
        rintro e w4 ⟨rfl, hr4⟩
        have hQ := nextP_in (k := 2) hP.1 hP.2 (by decide)
        have HK : Hid (ownI w4 w.heap.size (.slice Tw (tags ++ [numAt s p 2]).length cw) (tags ++ [numAt s p 2]) ∧ RdTo w w4 b s (nextP s (nextP s p 2) 2) (nextF s (nextP s p 2) 2 (nextF s p 2 f))) := ⟨HOA.out.by hr4.grown hbw, hr4.box, hr4.free, grownBy_trans hg3 hr4.grown⟩
        clear hr4 HOA hA3 hF3 hg3
        go_wp2
        go_roundw
        case rel => exact ⟨tags ++ [numAt s p 2], _, _, _, rfl, HG', by simp; omega, by simpa using HK.out.1, HK.out.2.box, HK.out.2.free, HK.out.2.grown, hQ.1, hQ.2⟩
        case measure => simp [lenOf]; omega
      · subst hk
        have hlt' : ¬ (tags.length : Int) < 2 := by omega
        have e0 : 2 - tags.length = 0 := by omega
        have HE : Hid (R = ⟨tags, 33024, p, f⟩) := by rw [← HG.out, e0]; rfl
        clear HG e0
        go_wp2
        refine bodyPost_ret (v := .tuple #[.slice Tv tags.length cv, .int .i64 33024]) ?_ rfl ?_
        · simp [results, Try.results29, go_sem]
        · rw [HE.out]
          exact ⟨_, rfl, hown, ⟨hA, hF, hg⟩, hp, hp2⟩
    · have hk' : (kind == 33024) = false := by simpa using hk
      have HE : Hid (R = ⟨tags, kind, p, f⟩) := by
        rw [← HG.out]
        cases 2 - tags.length with
        | zero => rfl
        | succ n => rw [tgo, if_neg hk]; rfl
      clear HG hk
      go_wp2
      refine bodyPost_ret (v := .tuple #[.slice Tv tags.length cv, .int .i64 kind]) ?_ rfl ?_
      · simp [results, Try.results29, go_sem]
      · rw [HE.out]
        exact ⟨_, rfl, hown, ⟨hA, hF, hg⟩, hp, hp2⟩
end Go.Proofs.Ytlpapncgcgllfaa
