/-
  Options that are copied: the program.
-/
import Derived.Test.YtgfpoohjbgdcpaaCop1
import Derived.Test.YtgfpoohjbgdcpaaRecsV
import Derived.Lib.AppendStr
namespace Go.Proofs.Ytgfpoohjbgdcpaa
open Go.RowKit Go.PlainAid Go.Shelf
attribute [local go_sem] Oper.semAt_some
/-- what is copied of an option -/
def cpSel (x : ByteArray × Bool) : List UInt8 := if 128 ≤ bt x.1 0 then bl x.1 else []
def cpBytes (ys : List (ByteArray × Bool)) : List UInt8 := ys.flatMap cpSel
def cpWhole (ys : List (ByteArray × Bool)) : Bool := ys.all (·.2)
def pad4 (l : List UInt8) : List UInt8 := l ++ List.replicate ((4 - l.length % 4) % 4) 0
def cpOk (t : ByteArray) : Bool := decide (t.size ≤ 40) && cpWhole (oSeq t)
def cpText (t : ByteArray) : ByteArray := if cpOk t then str (pad4 (cpBytes (oSeq t))) else ⟨#[]⟩
theorem cpBytes_snoc (pre : List (ByteArray × Bool)) (x : ByteArray × Bool) : cpBytes (pre ++ [x]) = cpBytes pre ++ cpSel x := by
  unfold cpBytes; simp
theorem cpWhole_snoc (pre : List (ByteArray × Bool)) (x : ByteArray × Bool) : cpWhole (pre ++ [x]) = (cpWhole pre && x.2) := by
  unfold cpWhole; simp
theorem pad4_done {l : List UInt8} (h : l.length % 4 = 0) : pad4 l = l := by
  unfold pad4; rw [h]; simp
theorem pad4_more {l : List UInt8} (h : l.length % 4 ≠ 0) : pad4 (l ++ [0]) = pad4 l := by
  unfold pad4
  rw [List.append_assoc, List.length_append]
  congr 1
  have e : (4 - l.length % 4) % 4 = (4 - (l.length + [(0 : UInt8)].length) % 4) % 4 + 1 := by simp only [List.length_cons, List.length_nil]; omega
  rw [e, List.replicate_succ]; rfl
/-- the size of what a sequence of options has -/
theorem oSeqF_size : ∀ f t, ((oSeqF f t).map fun x => x.1.size).sum ≤ t.size := by
  intro f
  induction f with
  | zero => intro t; simp [oSeqF]
  | succ f ih =>
    intro t
    unfold oSeqF
    by_cases h0 : t.size = 0 ∨ bt t 0 = 0
    · rw [if_pos h0]; simp
    · rw [if_neg h0]
      cases hw : oW t
      · exact Nat.zero_le _
      · have hn := oN_in (by omega) hw
        have hs : (t.extract (oN t) t.size).size = t.size - oN t := by simp
        have hs2 : (t.extract 0 (oN t)).size = oN t := by simp; omega
        have := ih (t.extract (oN t) t.size)
        simp only [if_true, List.map_cons, List.sum_cons]
        omega
theorem oSeqF_one : ∀ f t x, x ∈ oSeqF f t → x.2 = true → 0 < x.1.size := by
  intro f
  induction f with
  | zero => intro t x h; simp [oSeqF] at h
  | succ f ih =>
    intro t x h hx
    unfold oSeqF at h
    by_cases h0 : t.size = 0 ∨ bt t 0 = 0
    · rw [if_pos h0] at h; simp at h
    · rw [if_neg h0] at h
      cases hw : oW t
      · rw [hw] at h; simp at h; rw [h] at hx; simp at hx
      · rw [hw] at h
        have hn := oN_in (by omega) hw
        simp only [if_true, List.mem_cons] at h
        rcases h with rfl | h
        · simp; omega
        · exact ih _ _ h hx
theorem cpBytes_len (t : ByteArray) (pre : List (ByteArray × Bool)) (h : pre <+: oSeq t) : (cpBytes pre).length ≤ t.size := by
  have h1 : (cpBytes pre).length ≤ (pre.map fun x => x.1.size).sum := by
    clear h
    induction pre with
    | nil => simp [cpBytes]
    | cons a l ih =>
      have e : cpBytes (a :: l) = cpSel a ++ cpBytes l := rfl
      rw [e, List.length_append, List.map_cons, List.sum_cons]
      have : (cpSel a).length ≤ a.1.size := by
        unfold cpSel; split
        · rw [bl_length]; exact Nat.le_refl _
        · simp
      omega
  obtain ⟨r, hr⟩ := h
  have h2 := oSeqF_size t.size t
  have h3 : ((oSeqF t.size t).map fun x => x.1.size).sum = (pre.map fun x => x.1.size).sum + (r.map fun x => x.1.size).sum := by
    have : oSeqF t.size t = pre ++ r := hr.symm
    rw [this, List.map_append, List.sum_append]
  omega
theorem cpBytes_len2 (pre : List OA) : (cpBytes (oP pre)).length ≤ pre.length * 1048576 := by
  induction pre with
  | nil => simp [oP, cpBytes]
  | cons a l ih =>
    have e : cpBytes (oP (a :: l)) = cpSel a.1 ++ cpBytes (oP l) := rfl
    rw [e, List.length_append, List.length_cons]
    have h1 : (cpSel a.1).length ≤ a.1.1.size := by
      unfold cpSel; split
      · rw [bl_length]; exact Nat.le_refl _
      · simp
    have h2 := a.2.2
    omega
theorem oSeqF_length : ∀ f t, (oSeqF f t).length ≤ f := by
  intro f
  induction f with
  | zero => intro t; simp [oSeqF]
  | succ f ih =>
    intro t; unfold oSeqF; split
    · simp
    · split
      · have := ih (t.extract (oN t) t.size); simp; omega
      · simp
theorem cop_new (W : World) (v : Value) (t : TypeId) : (W.alloc (.cells #[v] t)).cell? ⟨W.heap.size, 0, none⟩ = some v ∧ (W.alloc (.cells #[v] t)).frozen? ⟨W.heap.size, 0, none⟩ = false :=
  ⟨(Boxed.new W t v).cell, (Boxed.new W t v).frozen⟩
theorem cop_cell {W : World} {a : Addr} {v : Value} (o : Obj) (h : W.cell? a = some v) : (W.alloc o).cell? a = some v := cell_kept h (World.grownBy_alloc W o none) (fun r e => by cases e)
theorem cop_froz {W : World} {a : Addr} {v : Value} (o : Obj) (h : W.cell? a = some v) (hf : W.frozen? a = false) : (W.alloc o).frozen? a = false := (frozen_kept h (World.grownBy_alloc W o none) (fun r e => by cases e)).trans hf
theorem wpListIn_append_str {F : Fence} {n : Nat} (w : World) {ops : Array Oper} {rest : List Oper} {o : Oper} {a : Act} {Q : Exit → Act → World → Prop} (hg : o.guard = none) (s x : Operand)
    (hop : o.op = .call { callee := .builtin .append, args := #[s, x], argTypes := #[33, 9] })
    (B : Nat) (v : Value) (l : List UInt8) (hs : a.eval s = v) (hown : ownB w B v l) (t : ByteArray) (hx : a.eval x = .string t) (hl : l.length + t.size ≤ 1099511627776) (hB : B ≤ w.heap.size)
    (h : ∀ v' w', ownB w' B v' (l ++ bl t) → w.grownBy w' v.ownBlock → wpListIn F n Try.prog ops Q rest (a.put o.dst v') w') : wpListIn F n Try.prog ops Q (o :: rest) a w := by
  have hinfo : (Try.prog.info? 5).map (fun i => (i.zero, i.size, i.bytes)) = some (some (.int .u8 0), 1, 1) := by kernel_rfl
  obtain ⟨i0, hi, hz0, hz1, hz2⟩ := info_parts hinfo
  refine wpListIn_plain hg fun K hK' => ?_
  obtain ⟨v', w', hrun, r1, r2, r3⟩ := Lib.run_append_own_string (P := Try.prog) w B 33 9 o.type 5 i0 Try.underlying33 Try.underlying9 hi hz0 hz1 hz2 v l.length (bcells l) hown t (by unfold maxLen; omega) (by omega) hB
  have hb : ownB w' B v' (l ++ bl t) := by
    have e : (l ++ bl t).length = l.length + t.size := by rw [List.length_append, bl_length]
    have e2 : bcells (l ++ bl t) = bcells l ++ Lib.strCells t := by simp only [bcells, List.map_append, Lib.strCells, bl]
    show w'.ownsRow B _ 1 v' (l ++ bl t).length (bcells (l ++ bl t))
    rw [e, e2]; exact r1
  unfold Oper.wpIn
  refine ⟨?_, ?_⟩
  · simp [Oper.about, hop, resolve, Target.leads, Sem.run_pure]
  · rw [Oper.semAt_plain F _ _ (by rw [hop]; intro c hc'; cases hc')]
    simp [execOp, hop, resolve, invoke, builtin, hs, hx, hrun, Result.andThen]
    exact hK' _ _ (h v' w' hb r2)
theorem Boxed.appendedS {W w1 : World} {n₀ B : Nat} {t e : TypeId} {size : Nat} {v v' : Value} {k m : Nat} {xs ys : List Value}
    (hv : Boxed W B t v) (hte : t ≠ e) (hrow : W.ownsRow n₀ e size v k xs) (hn₀ : n₀ ≤ W.heap.size) (hB : n₀ ≤ B)
    (hown' : w1.ownsRow n₀ e size v' m ys) (hgrow : W.grownBy w1 v.ownBlock) :
    Boxed w1 B t v ∧ Boxed (w1.setCell ⟨B, 0, none⟩ v') B t v' ∧ (w1.setCell ⟨B, 0, none⟩ v').ownsRow n₀ e size v' m ys ∧ KeepsOthers W (w1.setCell ⟨B, 0, none⟩ v') ∧ Below n₀ W (w1.setCell ⟨B, 0, none⟩ v') := by
  have hv1 : Boxed w1 B t v := hv.kept hgrow (hv.not_row hte hrow)
  refine ⟨hv1, hv1.set v', hown'.kept (grownBy_setCell' w1 B v') (.inr (hv1.not_row hte hown').symm), ?_, ?_⟩
  · refine (KeepsOthers.of_grownBy hgrow fun j o ej hj => ?_).trans (KeepsOthers.setCell _ _ _)
    rcases hrow.2 with ⟨rfl, _⟩ | ⟨g, cap, cur, rfl, _, hgb, _⟩
    · simp [Value.ownBlock] at ej
    · obtain rfl : g = j := by simpa [Value.ownBlock] using ej
      rw [hgb] at hj; cases hj; rfl
  · refine ((Below.refl n₀ W).grown hgrow (show n₀ ≤ W.heap.size from hn₀) fun j ej => ?_).setCell (p := ⟨B, 0, none⟩) hB v'
    rcases hrow.2 with ⟨rfl, _⟩ | ⟨g, cap, cur, rfl, hb, _, _⟩
    · simp [Value.ownBlock] at ej
    · obtain rfl : g = j := by simpa [Value.ownBlock] using ej
      exact hb
theorem o_stops (n : Nat) (hn : 1 ≤ n) (Bn n₀ : Nat) (t : ByteArray) (w : World) (hBn : Bn < w.heap.size) (_hn₀ : n₀ ≤ w.heap.size) (hc : w.cell? ⟨Bn, 0, none⟩ = some (.string t)) (ht : t.size ≤ 1048576) :
    SeqStopsK Fence.wide n Try.prog 73 #[.pointer (some ⟨Bn, 0, none⟩)] oEnc (Below n₀) (fun ys => oP ys = oSeq t) (fun pre => oP pre <+: oSeq t) (oSeq t).length w := fun l J Jx W hW _ _ hY h0 =>
  o_iter n hn l Bn n₀ t J Jx hY W ((hW.cell (p := ⟨Bn, 0, none⟩) hBn).trans hc) ht h0
set_option maxRecDepth 100000 in
theorem i_optionsIn (t : ByteArray) (w : World) : Calls Try.prog 56 #[.string t] w fun e w' => e = .returned (.func (.func 73) #[] #[.pointer (some ⟨w.heap.size, 0, none⟩)]) ∧ w' = w.alloc (.cells #[.string t] 9) := by
  go_enter Try.func56, Try.ntmps56
  go_wp2
  go_ret
  exact ⟨rfl, rfl⟩
theorem ownB_form {w : World} {B : Nat} {v : Value} {l : List UInt8} (h : ownB w B v l) : ∃ T n c, v = .slice T n c := by
  rcases h.2 with ⟨hv, _⟩ | ⟨g, cap, cur, hv, _⟩
  · exact ⟨_, _, _, hv⟩
  · exact ⟨_, _, _, hv⟩
theorem cop_step {W w1 : World} {n₀ : Nat} {v v' : Value} {l m : List UInt8} (hv : Boxed W n₀ 33 v) (hrow : W.ownsRow n₀ 5 1 v l.length (bcells l)) (hn : n₀ ≤ W.heap.size) (hown' : ownB w1 n₀ v' m) (hgrow : W.grownBy w1 v.ownBlock) :
    Boxed w1 n₀ 33 v ∧ Boxed (w1.setCell ⟨n₀, 0, none⟩ v') n₀ 33 v' ∧ (w1.setCell ⟨n₀, 0, none⟩ v').ownsRow n₀ 5 1 v' m.length (bcells m) ∧ KeepsOthers W (w1.setCell ⟨n₀, 0, none⟩ v') ∧ Below n₀ W (w1.setCell ⟨n₀, 0, none⟩ v') :=
  Boxed.appendedS hv (by decide) hrow hn (Nat.le_refl _) hown' hgrow
theorem hidT : Hid True := trivial
/-- how many noughts lack -/
def padLeft (W : World) (b : Nat) : Nat := match W.cell? ⟨b, 0, none⟩ with
  | some (.slice _ n _) => (4 - n % 4) % 4
  | _ => 0
theorem padLeft_at {W : World} {b n c : Nat} {T : Option Addr} (h : W.cell? ⟨b, 0, none⟩ = some (.slice T n c)) : padLeft W b = (4 - n % 4) % 4 := by unfold padLeft; rw [h]
set_option maxRecDepth 100000 in
set_option maxHeartbeats 6400000 in
theorem i_CopiedOpts (t : ByteArray) (w : World) (ht : t.size ≤ 1099511627776) :
    Calls Try.prog 32 #[.string t] w fun e w' => e = .returned (.tuple #[.string (cpText t), .bool (cpOk t)]) ∧ Below w.heap.size w w' := by
  by_cases h40 : t.size ≤ 40
  case neg =>
    have HV : Hid (cpText t = ⟨#[]⟩ ∧ cpOk t = false) := by
      have e : cpOk t = false := by unfold cpOk; rw [decide_eq_false h40]; rfl
      exact ⟨by unfold cpText; rw [e]; rfl, e⟩
    have h40i : (40 : Int) < (t.size : Int) := by omega
    rw [HV.out.1, HV.out.2]
    clear HV h40
    go_enter Try.func32, Try.ntmps32
    go_wp2
    refine bodyPost_ret (v := .tuple #[.string ⟨#[]⟩, .bool false]) ?_ rfl ⟨rfl, ?_⟩
    · simp [results, Try.results32, go_sem]
    · go_grown
  case pos =>
    have h40i : ¬ (40 : Int) < (t.size : Int) := by omega
    refine (callsIn_wide (n := 4)).1 ?_
    refine callsIn_of_wp_marks Try.func32 rfl trivial ?_ rfl
    simp only [Try.ntmps32, List.size_toArray, List.length_cons, List.length_nil, Nat.reduceAdd, Nat.reduceSub, Array.replicate_succ, Array.replicate_zero, List.push_toArray, List.append_toArray, List.nil_append, List.cons_append]
    gi_wp2_with (refine ⟨trivial, ?_⟩; gi_at_call 56; refine (callsIn_wide.2 (i_optionsIn t _)).mono ?_; rintro e w' ⟨rfl, rfl⟩)
    have hB0 : Below w.heap.size w ((((w.alloc (.cells #[.string ⟨#[]⟩] 9)).alloc (.cells #[.bool false] 4)).alloc (.cells #[.slice none 0 0] 33)).alloc (.cells #[.string t] 9)) := ((((Below.refl _ w).alloc (Nat.le_refl _) _).alloc (by simp) _).alloc (by simp; omega) _).alloc (by simp; omega) _
    have k0 := cop_new w (.string ⟨#[]⟩) 9
    have k1 := cop_new (w.alloc (.cells #[.string ⟨#[]⟩] 9)) (.bool false) 4
    have bO := Boxed.new ((w.alloc (.cells #[.string ⟨#[]⟩] 9)).alloc (.cells #[.bool false] 4)) 33 (.slice none 0 0)
    have bN := Boxed.new (((w.alloc (.cells #[.string ⟨#[]⟩] 9)).alloc (.cells #[.bool false] 4)).alloc (.cells #[.slice none 0 0] 33)) 9 (.string t)
    simp only [World.size_alloc] at k1 bO bN
    have hN40 : (oSeq t).length ≤ 40 := Nat.le_trans (oSeqF_length _ _) h40
    refine wpIn_rangeFunc_ownG rfl (by omega) (gf := 73) (lb := #[.pointer (some ⟨w.heap.size + 1 + 1 + 1, 0, none⟩)]) rfl trivial (enters_of Try.func73 (by kernel_rfl) rfl)
      (o_stops 3 (by omega) (w.heap.size + 1 + 1 + 1) w.heap.size t _ (by simp) (by simp; omega) bN.cell (by omega)) belowK_t (belowK_b (by simp; omega)) (Below.refl _ _) (fun _ => rfl)
      (fun pre W => ((∃ v, Boxed W (w.heap.size + 1 + 1) 33 v ∧ W.ownsRow (w.heap.size + 1 + 1) 5 1 v (cpBytes (oP pre)).length (bcells (cpBytes (oP pre))) ∧ Hid True) ∧ cpWhole (oP pre) = true ∧ W.cell? ⟨w.heap.size, 0, none⟩ = some (.string ⟨#[]⟩) ∧ W.frozen? ⟨w.heap.size, 0, none⟩ = false ∧ W.cell? ⟨w.heap.size + 1, 0, none⟩ = some (.bool false) ∧ W.frozen? ⟨w.heap.size + 1, 0, none⟩ = false) ∧ Below w.heap.size w W)
      (fun c pre W => (c = .ret ∧ cpWhole (oP pre) = false ∧ W.cell? ⟨w.heap.size, 0, none⟩ = some (.string ⟨#[]⟩) ∧ W.cell? ⟨w.heap.size + 1, 0, none⟩ = some (.bool false)) ∧ Below w.heap.size w W)
      (OwnFrom.and (OwnFrom.and (Own.from (holdsRow_own (w.heap.size + 1 + 1) (w.heap.size + 1 + 1) 33 5 1 (fun pre => (cpBytes (oP pre)).length) (fun pre => bcells (cpBytes (oP pre))) (fun _ _ => Hid True)) _) (Own.from (fun s A B row hs hg hr => ⟨hs.1, cell_kept hs.2.1 hg hr, (frozen_kept hs.2.1 hg hr).trans hs.2.2.1, cell_kept hs.2.2.2.1 hg hr, (frozen_kept hs.2.2.2.1 hg hr).trans hs.2.2.2.2⟩) _)) (ownFrom_below (Nat.le_refl _) (by simp; omega)))
      (fun c => OwnFrom.and (Own.from (fun s A B row hs hg hr => ⟨hs.1, hs.2.1, cell_kept hs.2.2.1 hg hr, cell_kept hs.2.2.2 hg hr⟩) _) (ownFrom_below (Nat.le_refl _) (by simp; omega)))
      ⟨⟨⟨_, bO.alloc _, World.ownsRow_nil _ _ _ _, hidT⟩, rfl, cop_cell _ (cop_cell _ (cop_cell _ k0.1)), cop_froz _ (cop_cell _ (cop_cell _ k0.1)) (cop_froz _ (cop_cell _ k0.1) (cop_froz _ k0.1 k0.2)), cop_cell _ (cop_cell _ k1.1), cop_froz _ (cop_cell _ k1.1) (cop_froz _ k1.1 k1.2)⟩, hB0⟩
      (fun x => { tmps := #[.string t, undef, .pointer (some ⟨w.heap.size, 0, none⟩), .pointer (some ⟨w.heap.size + 1, 0, none⟩), .pointer (some ⟨w.heap.size + 1 + 1, 0, none⟩), .string x.1.1, .bool x.1.2, .string t, .int .i64 (t.size : Int), .bool false, .string t, .func (.func 73) #[] #[.pointer (some ⟨w.heap.size + 1 + 1 + 1, 0, none⟩)], .string x.1.1, .bool x.1.2, undef, undef, undef, undef, undef, undef, undef, undef, undef, undef, undef, undef, undef, undef, undef, undef, undef], defers := [] }) ?assign ?body ?done ?stop
    case assign =>
      intro l x W K hK
      simp only [oEnc]
      gi_wp2
      exact hK
    case body =>
      rintro l pre ⟨⟨xs, xb⟩, hx1, hx2⟩ W ⟨⟨⟨v, hv, hrow, _⟩, hw, c0, f0, c1, f1⟩, hB⟩ hlt
      simp only at hx1 hx2
      have hc := hv.cell
      have hlv := hv.lt
      cases xb
      · gi_wp2
        refine ⟨((KeepsOthers.setCell _ _ _).trans (KeepsOthers.setCell _ _ _)).from _, ⟨rfl, by rw [oP_snoc, cpWhole_snoc]; simp, ?_, ?_⟩, (hB.setCell (p := ⟨w.heap.size, 0, none⟩) (Nat.le_refl _) _).setCell (p := ⟨w.heap.size + 1, 0, none⟩) (by simp) _⟩
        · rw [World.cell?_setCell_other _ _ _ _ (by simp)]
          exact World.cell?_setCell_same _ _ _ (c0)
        · exact World.cell?_setCell_same _ _ _ ((World.cell?_setCell_other _ _ _ _ (by simp)).trans c1)
      · have h0 := hx1 rfl
        have h0i : (0 : Int) < (xs.size : Int) := by omega
        have E0 := get_bt xs 0 h0
        have hlen := cpBytes_len2 pre
        have hpl : pre.length ≤ 40 := by omega
        have hlb : (cpBytes (oP pre)).length + xs.size ≤ 1099511627776 := by omega
        have HW : Hid (cpWhole (oP (pre ++ [⟨(xs, true), hx1, hx2⟩])) = true) := by show _ = _; rw [oP_snoc, cpWhole_snoc, hw]; rfl
        by_cases h128 : 128 ≤ bt xs 0
        · have z0 : (128 : Int) ≤ ((xs[0]'h0).toNat : Int) := by rw [E0]; exact h128
          have HS : Hid (cpBytes (oP (pre ++ [⟨(xs, true), hx1, hx2⟩])) = cpBytes (oP pre) ++ bl xs) := by show _ = _; rw [oP_snoc, cpBytes_snoc]; unfold cpSel; rw [if_pos h128]
          clear E0 h128
          gi_wp2_with (gi_at_builtin; refine wpListIn_append_str _ rfl _ _ rfl (w.heap.size + 1 + 1) _ (cpBytes (oP pre)) rfl hrow xs rfl hlb (by omega) ?_; intro v' w1 hown' hgrow; obtain ⟨T', n', c', rfl⟩ := ownB_form hown'; obtain ⟨hv1, hv2, hr2, hk2, hb2⟩ := cop_step hv hrow (by omega) hown' hgrow; have hc1 := hv1.cell; have hf1 := hv1.frozen)
          refine ⟨hk2.from _, hb2.mono (by omega), ⟨⟨_, hv2, by rw [HS.out]; exact hr2, hidT⟩, HW.out, (hb2.cell (p := ⟨w.heap.size, 0, none⟩) (by simp only; omega)).trans c0, (hb2.frozen (p := ⟨w.heap.size, 0, none⟩) (by simp only; omega)).trans f0, (hb2.cell (p := ⟨w.heap.size + 1, 0, none⟩) (by simp only; omega)).trans c1, (hb2.frozen (p := ⟨w.heap.size + 1, 0, none⟩) (by simp only; omega)).trans f1⟩, hB.trans (hb2.mono (by omega))⟩
        · have z0 : ¬ (128 : Int) ≤ ((xs[0]'h0).toNat : Int) := by rw [E0]; exact h128
          have HS : Hid (cpBytes (oP (pre ++ [⟨(xs, true), hx1, hx2⟩])) = cpBytes (oP pre)) := by show _ = _; rw [oP_snoc, cpBytes_snoc]; unfold cpSel; rw [if_neg h128]; simp
          clear E0 h128
          gi_wp2
          refine ⟨KeepsFrom.refl _ _, Below.refl _ _, ⟨?_, HW.out, c0, f0, c1, f1⟩, hB⟩
          first | exact ⟨v, hv, by rw [HS.out]; exact hrow⟩ | exact ⟨v, hv, by rw [HS.out]; exact hrow, hidT⟩
    case stop =>
      rintro D c pre W hD hpre ⟨⟨rfl, hwf, c0, c1⟩, hB⟩ hK
      have HV : Hid (cpText t = ⟨#[]⟩ ∧ cpOk t = false) := by
        have e : cpWhole (oSeq t) = false := by
          obtain ⟨r, hr⟩ := hpre
          unfold cpWhole at hwf ⊢
          rw [← hr, List.all_append, hwf]; rfl
        have e2 : cpOk t = false := by unfold cpOk; rw [e, Bool.and_false]
        exact ⟨by unfold cpText; rw [e2]; rfl, e2⟩
      gi_wp2
      refine ⟨by simp, .inl ⟨_, _, rfl, run_takeDeferred hK, ?_⟩⟩
      have r0 := cell_kept c0 (grownBy_putObj' _ D (.deferred none)) (fun r e => by cases e; exact ⟨_, hK, rfl⟩)
      have r1 := cell_kept c1 (grownBy_putObj' _ D (.deferred none)) (fun r e => by cases e; exact ⟨_, hK, rfl⟩)
      refine ⟨.tuple #[.string ⟨#[]⟩, .bool false], ?_, by rw [HV.out.1, HV.out.2], hB.trans (belowK_b (w := w) (Nat.le_refl _) W D _ _ (by simp at hD; omega) hK rfl rfl)⟩
      simp [results, Try.f32, go_sem, r0, r1]
    case done =>
      rintro D ys W hD hS ⟨⟨⟨v, hv, hrow, _⟩, hw, c0, f0, c1, f1⟩, hB⟩ hK
      rw [hS] at hrow hw
      have HV : Hid (cpText t = str (pad4 (cpBytes (oSeq t))) ∧ cpOk t = true) := by
        have e2 : cpOk t = true := by unfold cpOk; rw [hw, decide_eq_true h40]; rfl
        exact ⟨by unfold cpText; rw [e2]; rfl, e2⟩
      have hlen : (cpBytes (oSeq t)).length ≤ 40 := Nat.le_trans (cpBytes_len t _ (List.prefix_refl _)) h40
      have hinfo : (Try.prog.info? 5).map (fun i => (i.zero, i.size, i.bytes)) = some (some (.int .u8 0), 1, 1) := by kernel_rfl
      obtain ⟨i0, hi, hz0, hz1, hz2⟩ := info_parts hinfo
      gi_wp2
      gi_loopw [] (fun wr => ∃ (v : Value) (bs : List UInt8), Boxed wr (w.heap.size + 1 + 1) 33 v ∧ wr.ownsRow (w.heap.size + 1 + 1) 5 1 v bs.length (bcells bs) ∧ bs.length ≤ 44 ∧ Hid (pad4 bs = pad4 (cpBytes (oSeq t))) ∧ wr.cell? ⟨w.heap.size, 0, none⟩ = some (.string ⟨#[]⟩) ∧ wr.frozen? ⟨w.heap.size, 0, none⟩ = false ∧ wr.cell? ⟨w.heap.size + 1, 0, none⟩ = some (.bool false) ∧ wr.frozen? ⟨w.heap.size + 1, 0, none⟩ = false ∧ wr.heap[D]? = some (.deferred (some [])) ∧ Below w.heap.size w wr) (fun wr => padLeft wr (w.heap.size + 1 + 1))
      case atStart => exact ⟨v, _, hv, hrow, by omega, rfl, c0, f0, c1, f1, hK, hB⟩
      case round =>
        clear hv hrow hlen c0 f0 c1 f1 hK hB
        obtain ⟨v, bs, hv, hrow, hlen, HP, c0, f0, c1, f1, hK, hB⟩ := hrel
        obtain ⟨T', n', c', rfl⟩ := ownB_form (B := w.heap.size + 1 + 1) (l := bs) hrow
        have hn' : n' = bs.length := (ownV.reads (k := 1) (xs := bcells bs) hrow).1
        subst hn'
        have hc := hv.cell
        have hlv := hv.lt
        have hm : Int.tmod (bs.length : Int) 4 = ((bs.length % 4 : Nat) : Int) := by rw [Int.tmod_eq_emod_of_nonneg (by omega)]; omega
        by_cases h4 : bs.length % 4 = 0
        · have z4 : (((bs.length % 4 : Nat) : Int) != 0) = false := by rw [h4]; rfl
          have hst := run_string_own (show ownB wr (w.heap.size + 1 + 1) (.slice T' bs.length c') bs from hrow)
          have HT : Hid (cpText t = str bs ∧ cpOk t = true) := ⟨by rw [HV.out.1, ← HP.out, pad4_done h4], HV.out.2⟩
          have hK2 := ((KeepsOthers.setCell wr ⟨w.heap.size, 0, none⟩ (.string (str bs))).trans (KeepsOthers.setCell _ ⟨w.heap.size + 1, 0, none⟩ (.bool true))).same D _ hK rfl
          have r1 : ((wr.setCell ⟨w.heap.size, 0, none⟩ (.string (str bs))).setCell ⟨w.heap.size + 1, 0, none⟩ (.bool true)).cell? ⟨w.heap.size + 1, 0, none⟩ = some (.bool true) := World.cell?_setCell_same _ _ _ ((World.cell?_setCell_other _ _ _ _ (by simp)).trans c1)
          have r0 : ((wr.setCell ⟨w.heap.size, 0, none⟩ (.string (str bs))).setCell ⟨w.heap.size + 1, 0, none⟩ (.bool true)).cell? ⟨w.heap.size, 0, none⟩ = some (.string (str bs)) := (World.cell?_setCell_other _ _ _ _ (by simp)).trans (World.cell?_setCell_same _ _ _ c0)
          have hB2 : Below w.heap.size w ((wr.setCell ⟨w.heap.size, 0, none⟩ (.string (str bs))).setCell ⟨w.heap.size + 1, 0, none⟩ (.bool true)) := (hB.setCell (p := ⟨w.heap.size, 0, none⟩) (Nat.le_refl _) _).setCell (p := ⟨w.heap.size + 1, 0, none⟩) (by simp) _
          clear h4 HP
          gi_wp2
          refine ⟨by simp, .inl ⟨_, _, rfl, run_takeDeferred hK2, ?_⟩⟩
          have q0 := cell_kept r0 (grownBy_putObj' _ D (.deferred none)) (fun r e => by cases e; exact ⟨_, hK2, rfl⟩)
          have q1 := cell_kept r1 (grownBy_putObj' _ D (.deferred none)) (fun r e => by cases e; exact ⟨_, hK2, rfl⟩)
          refine ⟨.tuple #[.string (str bs), .bool true], ?_, by rw [HT.out.1, HT.out.2], hB2.trans (belowK_b (w := w) (Nat.le_refl _) _ D _ _ (by simp at hD; omega) hK2 rfl rfl)⟩
          simp [results, Try.f32, go_sem, q0, q1]
        · have z4 : (((bs.length % 4 : Nat) : Int) != 0) = true := by simp; omega
          have HP2 : Hid (pad4 (bs ++ [0]) = pad4 (cpBytes (oSeq t))) := by show _ = _; rw [pad4_more h4, HP.out]
          have hpl := padLeft_at hc
          have hbc : bcells (bs ++ [0]) = bcells bs ++ [.int .u8 0] := by simp [bcells]
          have hbl : (bs ++ [(0 : UInt8)]).length = bs.length + 1 := by simp
          gi_wp2_with (gi_at_builtin; refine wpListIn_append_own _ rfl _ _ 33 rfl (w.heap.size + 1 + 1) 5 i0 (.int .u8 0) 1 1 Try.underlying33 hi hz0 hz1 hz2 rfl (by decide) _ _ _ rfl (hrow.alloc _) ⟨wr.heap.size, 0, none⟩ 1 1 [.int .u8 0] rfl rfl (cell_one_new _ _ _) (by simp [Value.oneCell']) (by unfold maxLen; omega) (by omega) (by simp; omega) ?_; intro v' w1 hown' hgrow _; obtain ⟨g', cap', rfl⟩ := ownsRow_succ hown'; obtain ⟨hv1, hv2, hr2, hk2, hb2⟩ := hv.appended (by decide) hrow (by omega) (Nat.le_refl _) hown' hgrow; have hc1 := hv1.cell; have hf1 := hv1.frozen)
          go_roundw
          case rel => exact ⟨_, bs ++ [0], hv2, by rw [hbc, hbl]; exact hr2, by rw [hbl]; omega, HP2.out, (hb2.cell (p := ⟨w.heap.size, 0, none⟩) (by simp only; omega)).trans c0, (hb2.frozen (p := ⟨w.heap.size, 0, none⟩) (by simp only; omega)).trans f0, (hb2.cell (p := ⟨w.heap.size + 1, 0, none⟩) (by simp only; omega)).trans c1, (hb2.frozen (p := ⟨w.heap.size + 1, 0, none⟩) (by simp only; omega)).trans f1, hk2.same D _ hK rfl, hB.trans (hb2.mono (by omega))⟩
          case measure => rw [padLeft_at hv2.cell, hpl]; omega
end Go.Proofs.Ytgfpoohjbgdcpaa
