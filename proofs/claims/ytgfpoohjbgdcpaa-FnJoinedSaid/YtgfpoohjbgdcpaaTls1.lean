/-
  Datagrams that tile: the model and the program.
-/
import Derived.Test.YtgfpoohjbgdcpaaTabIp
import Derived.Laws.StructEq
namespace Go.Proofs.Ytgfpoohjbgdcpaa
open Go.RowKit Go.PlainAid
/-- the operations of the regions of one number -/
def regOf (n : Nat) : Code → List (Array Oper)
  | .region id ops _ => if id = n then [ops] else []
  | .seq a b => regOf n a ++ regOf n b
  | .cond _ a b => regOf n a ++ regOf n b
  | .block _ b => regOf n b
  | .loop b => regOf n b
  | .rangeFunc _ _ a b => regOf n a ++ regOf n b
  | .scope b => regOf n b
  | _ => []
theorem lexReg {n : Nat} {c : Code} {ops : Array Oper} (h : (regOf n c).map (Region.lexB .any) = [true]) (ho : regOf n c = [ops]) : Region.lexB .any ops = true := by
  rw [ho] at h; simpa using h
theorem Try.lexTiles : (regOf 6 (Try.f26.body.getD .skip)).map (Region.lexB .any) = [true] := by kernel_rfl
def sameFl (a b : IpV) : Bool := decide (a.src = b.src) && decide (a.dst = b.dst) && decide (a.pro = b.pro) && decide (a.id = b.id)
def ipEnd (a : IpV) : Int := 8 * a.off + (a.data.size : Int)
def nextB (a b : IpV) : Bool := a.mf && decide (8 * b.off = ipEnd a)
/-- the i-th one is right, of the first one's datagram, and where the one ahead of it ends -/
def tlOne (l : List IpV) (i : Nat) : Bool := ipOk (iqA l i) && sameFl (iqA l i) (iqA l 0) && (decide (i = 0) || nextB (iqA l (i - 1)) (iqA l i))
def tlOk (l : List IpV) : Bool := (List.range l.length).all (tlOne l) && decide (0 < l.length)
theorem tlOk_yes {l : List IpV} (h : ∀ i, i < l.length → tlOne l i = true) : tlOk l = decide (0 < l.length) := by
  have : (List.range l.length).all (tlOne l) = true := List.all_eq_true.2 fun i hi => h i (List.mem_range.1 hi)
  unfold tlOk; rw [this]; rfl
theorem tlOk_no {l : List IpV} {i : Nat} (hi : i < l.length) (h : tlOne l i = false) : tlOk l = false := by
  have : (List.range l.length).all (tlOne l) = false := by
    rw [List.all_eq_false]; exact ⟨i, List.mem_range.2 hi, by rw [h]; decide⟩
  unfold tlOk; rw [this]; rfl
theorem sameFl_iff {a b : IpV} : sameFl a b = true ↔ a.src = b.src ∧ a.dst = b.dst ∧ a.pro = b.pro ∧ a.id = b.id := by
  unfold sameFl; simp [and_assoc]
theorem nextB_iff {a b : IpV} : nextB a b = true ↔ a.mf = true ∧ 8 * b.off = 8 * a.off + (a.data.size : Int) := by
  unfold nextB ipEnd; simp
theorem tlOne_iff {l : List IpV} {i : Nat} : tlOne l i = true ↔ ipOk (iqA l i) = true ∧ (sameFl (iqA l i) (iqA l 0) = true) ∧ (i = 0 ∨ nextB (iqA l (i - 1)) (iqA l i) = true) := by
  unfold tlOne; simp [and_assoc]
theorem ipOk_off {p : IpV} (h : ipOk p = true) : 0 ≤ p.off ∧ p.off ≤ 8191 ∧ p.data.size ≤ 65535 ∧ (p.mf = true → p.data.size % 8 = 0) := by
  unfold ipOk placeB lenB mulB inB at h
  simp only [Bool.and_eq_true, decide_eq_true_iff, Bool.or_eq_true, Bool.not_eq_true'] at h
  obtain ⟨_, ⟨⟨⟨h1, h2⟩, h3⟩, _⟩, h4⟩ := h
  refine ⟨h1, h2, by omega, fun hm => ?_⟩
  rcases h4 with h4 | h4
  · rw [hm] at h4; exact absurd h4 (by decide)
  · exact h4
/-- each has at most a million bytes -/
def iqShort (l : List IpV) : Prop := ∀ i, i < l.length → (iqA l i).opts.size ≤ 1048576 ∧ (iqA l i).data.size ≤ 1048576
theorem Try.flowGuard : Try.prog.eqGuardType Try.prog.depth 72 = false := by kernel_rfl
theorem flowNeq (s1 d1 p1 i1 s0 d0 p0 i0 : Int) (w : World) : (binOp .neq 72 (.agg #[.int .i64 s1, .int .i64 d1, .int .i64 p1, .int .i64 i1]) (.agg #[.int .i64 s0, .int .i64 d0, .int .i64 p0, .int .i64 i0])).run Try.prog w = .ok (.bool (!decide (s1 = s0 ∧ d1 = d0 ∧ p1 = p0 ∧ i1 = i0))) w := by
  rw [run_neq_struct, run_equalIn_agg w 9999 _ _ _ (by kernel_rfl) (by kernel_rfl)]
  simp only [Program.fieldsOf, Try.underlying72]
  simp only [Op.eqFields]
  simp [go_sem, part, run_equalIn_int _ _ _ _ _ _ _ Try.underlying2]
  repeat' split
  all_goals simp_all
def flL (p : IpV) : Array Value := #[.int .i64 p.src, .int .i64 p.dst, .int .i64 p.pro, .int .i64 p.id]
set_option maxRecDepth 100000 in
set_option maxHeartbeats 800000 in
theorem i_flowOf (p : IpV) (w : World) :
    Calls Try.prog 50 #[.agg (ipL p)] w fun e w' => e = .returned (.agg (flL p)) ∧ Below w.heap.size w w' := by
  obtain ⟨tos, id, df, mf, off, ttl, pro, src, dst, opts, data⟩ := p
  simp only [ipL, flL] at *
  go_enter Try.func50, Try.ntmps50
  go_wp2
  refine bodyPost_ret (v := .agg #[.int .i64 src, .int .i64 dst, .int .i64 pro, .int .i64 id]) ?_ rfl ⟨rfl, ?_⟩
  · simp [results, Try.results50, go_sem]
  · go_grown
set_option maxRecDepth 100000 in
theorem i_endOf (p : IpV) (w : World) (h0 : 0 ≤ p.off) (h1 : p.off ≤ 8191) (h2 : p.data.size ≤ 1048576) :
    Calls Try.prog 71 #[.agg (ipL p)] w fun e w' => e = .returned (.int .i64 (8 * p.off + (p.data.size : Int))) ∧ Below w.heap.size w w' := by
  obtain ⟨tos, id, df, mf, off, ttl, pro, src, dst, opts, data⟩ := p
  simp only [ipL] at *
  go_enter Try.func71, Try.ntmps71
  go_wp2
  go_ret
  exact ⟨rfl, (Below.refl _ w).alloc (Nat.le_refl _) _⟩
set_option maxRecDepth 100000 in
set_option maxHeartbeats 1600000 in
theorem i_isNext (a b : IpV) (w : World) (h0 : 0 ≤ a.off) (h1 : a.off ≤ 8191) (h2 : a.data.size ≤ 1048576) (h3 : 0 ≤ b.off) (h4 : b.off ≤ 8191) :
    Calls Try.prog 51 #[.agg (ipL a), .agg (ipL b)] w fun e w' => e = .returned (.bool (nextB a b)) ∧ Below w.heap.size w w' := by
  have CE : Hid (∀ u : World, Calls Try.prog 71 #[.agg (ipL a)] u fun e w' => e = .returned (.int .i64 (8 * a.off + (a.data.size : Int))) ∧ Below u.heap.size u w') := fun u => i_endOf a u h0 h1 h2
  have HN : Hid (nextB a b = (a.mf && decide (8 * b.off = 8 * a.off + (a.data.size : Int)))) := rfl
  have hb2 : Below w.heap.size w ((w.alloc (.cells (ipL a) 28)).alloc (.cells (ipL b) 28)) := ((Below.refl _ w).alloc (Nat.le_refl _) _).alloc (by simp) _
  have A1 : Bx ((w.alloc (.cells (ipL a) 28)).alloc (.cells (ipL b) 28)) w.heap.size (ipL a).toList := (Bx.new w _ _).below ((Below.refl _ _).alloc (Nat.le_refl _) _)
  have B1 : Bx ((w.alloc (.cells (ipL a) 28)).alloc (.cells (ipL b) 28)) (w.heap.size + 1) (ipL b).toList := by
    have := Bx.new (w.alloc (.cells (ipL a) 28)) (ipL b) 28
    simpa using this
  generalize nextB a b = r at *
  obtain ⟨tos, id, df, mf, off, ttl, pro, src, dst, opts, data⟩ := a
  obtain ⟨tos2, id2, df2, mf2, off2, ttl2, pro2, src2, dst2, opts2, data2⟩ := b
  simp only [ipL] at *
  go_enter Try.func51, Try.ntmps51
  go_wp2_with fail
  generalize hW : (w.alloc _).alloc _ = w1 at *
  clear hW
  have hne := BW.some w1
  have hB2 : ∀ u : BW w1, Below w.heap.size w u.u := fun u => hb2.trans (u.le.mono hb2.size)
  have a0 := fun u : BW w1 => (A1.ofBW u).2 0 _ rfl
  have a1 := fun u : BW w1 => (A1.ofBW u).2 1 _ rfl
  have a2 := fun u : BW w1 => (A1.ofBW u).2 2 _ rfl
  have a3 := fun u : BW w1 => (A1.ofBW u).2 3 _ rfl
  have a4 := fun u : BW w1 => (A1.ofBW u).2 4 _ rfl
  have a5 := fun u : BW w1 => (A1.ofBW u).2 5 _ rfl
  have a6 := fun u : BW w1 => (A1.ofBW u).2 6 _ rfl
  have a7 := fun u : BW w1 => (A1.ofBW u).2 7 _ rfl
  have a8 := fun u : BW w1 => (A1.ofBW u).2 8 _ rfl
  have a9 := fun u : BW w1 => (A1.ofBW u).2 9 _ rfl
  have a10 := fun u : BW w1 => (A1.ofBW u).2 10 _ rfl
  have b4 := fun u : BW w1 => (B1.ofBW u).2 4 _ rfl
  cases mf
  all_goals
    refine wp_region_below (by kernel_rfl) (by kernel_rfl) ?_
    repeat (go_big_quiet_step (first | (go_at_call 71; exact Calls.into (CE.out _))))
    refine wpQuiet_nil ?_
    intro _ hw'
    obtain ⟨u, hw''⟩ := hw'
    subst hw''
    clear a0 a1 a2 a3 a4 a5 a6 a7 a8 a9 a10 b4 hne
    go_wp2
    go_ret
    exact ⟨ret_bool (by rw [HN.out, Bool.eq_iff_iff]; simp), hB2 u⟩
end Go.Proofs.Ytgfpoohjbgdcpaa
