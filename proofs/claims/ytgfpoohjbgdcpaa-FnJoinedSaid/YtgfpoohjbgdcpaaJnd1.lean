/-
  Datagrams that are joined, plainly; the model.
-/
import Derived.Test.YtgfpoohjbgdcpaaTls3
import Derived.Test.YtgfpoohjbgdcpaaTls2
import Derived.Test.YtgfpoohjbgdcpaaRdr
import Derived.Lib.AppendStr
namespace Go.Proofs.Ytgfpoohjbgdcpaa
open Go.RowKit Go.PlainAid
def jnData (l : List IpV) : List UInt8 := l.flatMap fun p => bl p.data
def jnW (l : List IpV) : IpV := ⟨(iqA l 0).tos, (iqA l 0).id, (iqA l 0).df, (iqA l (l.length - 1)).mf, (iqA l 0).off, (iqA l 0).ttl, (iqA l 0).pro, (iqA l 0).src, (iqA l 0).dst, (iqA l 0).opts, str (jnData l)⟩
def jn0 : IpV := ⟨0, 0, false, false, 0, 0, 0, 0, 0, ⟨#[]⟩, ⟨#[]⟩⟩
def jnOk (l : List IpV) : Bool := tlOk l && ipOk (jnW l)
def jnV (l : List IpV) : IpV := if jnOk l then jnW l else jn0
theorem jnData_take (l : List IpV) (j : Nat) (h : j < l.length) : jnData (l.take (j + 1)) = jnData (l.take j) ++ bl (iqA l j).data := by
  unfold jnData; rw [List.take_succ_eq_append_getElem h, iqA_eq l j h, List.flatMap_append]; simp
theorem jnData_len (l : List IpV) : (jnData l).length ≤ iqTot l := by
  induction l with
  | nil => simp [jnData]
  | cons a l ih =>
    have e : jnData (a :: l) = bl a.data ++ jnData l := rfl
    have e2 : iqTot (a :: l) = iqSz a + iqTot l := rfl
    have e3 : iqSz a = a.opts.size + a.data.size := rfl
    rw [e, e2, e3, List.length_append, bl_length]; omega
theorem jnData_le (l : List IpV) (j : Nat) : (jnData (l.take j)).length ≤ (jnData l).length := by
  have e : jnData l = jnData (l.take j) ++ jnData (l.drop j) := by
    conv => lhs; rw [← List.take_append_drop j l]
    unfold jnData; rw [List.flatMap_append]
  rw [e, List.length_append]; omega
theorem ipOk_long {p : IpV} (h : 65535 < p.data.size) : ipOk p = false := by
  cases hk : ipOk p
  · rfl
  · have := (ipOk_off hk).2.2.1; omega
theorem bcells_bl (l : List UInt8) (t : ByteArray) : bcells (l ++ bl t) = bcells l ++ Lib.strCells t := by
  simp only [bcells, List.map_append, Lib.strCells, bl]
theorem wpList_append_text {w : World} {ops : Array Oper} {rest : List Oper} {o : Oper} {a : Act} {Q : Exit → Act → World → Prop} (hgd : o.guard = none) (s x : Operand)
    (ho : o.op = .call { callee := .builtin .append, args := #[s, x], argTypes := #[33, 9] })
    (B : Nat) (v : Value) (l : List UInt8) (hs : a.eval s = v) (hown : ownB w B v l) (t : ByteArray) (hx : a.eval x = .string t) (hl : l.length + t.size ≤ 1099511627776) (hB : B ≤ w.heap.size)
    (h : ∀ v' w', ownB w' B v' (l ++ bl t) → Below B w w' → w.grownBy w' v.ownBlock → wpList Try.prog ops Q rest (a.put o.dst v') w') : wpList Try.prog ops Q (o :: rest) a w := by
  have hinfo : (Try.prog.info? 5).map (fun i => (i.zero, i.size, i.bytes)) = some (some (.int .u8 0), 1, 1) := by kernel_rfl
  obtain ⟨i0, hi, hz0, hz1, hz2⟩ := info_parts hinfo
  refine Lib.wpList_append_own_string w hgd s x 33 9 ho B 5 i0 Try.underlying33 Try.underlying9 hi hz0 hz1 hz2 v l.length (bcells l) hs hown t hx (by unfold maxLen; omega) (by omega) hB ?_
  intro v' w' h1 h2 _
  refine h v' w' ?_ ((Below.refl B w).grown h2 hB fun k hk => (World.ownsRow.lt hown k hk).1) h2
  have e : (l ++ bl t).length = l.length + t.size := by rw [List.length_append, bl_length]
  show w'.ownsRow B _ 1 v' (l ++ bl t).length (bcells (l ++ bl t))
  rw [e, bcells_bl]; exact h1
theorem Fx.alloc {W : World} {b : Nat} (h : Fx W b) (o : Obj) : Fx (W.alloc o) b := h.below ((Below.refl _ W).alloc (Nat.le_refl _) o)
theorem Bx.alloc {W : World} {b : Nat} {vs : List Value} (h : Bx W b vs) (o : Obj) : Bx (W.alloc o) b vs := h.below ((Below.refl _ W).alloc (Nat.le_refl _) o)
theorem Bx.other {W : World} {b : Nat} {vs : List Value} (h : Bx W b vs) {c j : Nat} (hc : c ≠ b) (u : Value) : Bx (W.setCell ⟨c, j, none⟩ u) b vs :=
  ⟨by simpa using h.1, fun i v hi => (World.cell?_setCell_other _ _ _ _ (fun k => hc (congrArg Addr.block k))).trans (h.2 i v hi)⟩
theorem Bx.belowB {W W' : World} {b B : Nat} {vs : List Value} (h : Bx W b vs) (hb : Below B W W') (hB : b < B) : Bx W' b vs :=
  ⟨Nat.lt_of_lt_of_le h.1 hb.size, fun i v hv => (hb.cell (p := ⟨b, i, none⟩) hB).trans (h.2 i v hv)⟩
theorem Fx.belowB {W W' : World} {b B : Nat} (h : Fx W b) (hb : Below B W W') (hB : b < B) : Fx W' b :=
  ⟨Nat.lt_of_lt_of_le h.1 hb.size, fun j => (hb.frozen (p := ⟨b, j, none⟩) hB).trans (h.2 j)⟩
/-- eleven cells of a block -/
theorem Bx.new11 (W : World) (t : TypeId) (z0 z1 z2 z3 z4 z5 z6 z7 z8 z9 z10 : Value) : Bx (W.alloc (.cells #[z0, z1, z2, z3, z4, z5, z6, z7, z8, z9, z10] t)) W.heap.size [z0, z1, z2, z3, z4, z5, z6, z7, z8, z9, z10] := Bx.new W #[z0, z1, z2, z3, z4, z5, z6, z7, z8, z9, z10] t
theorem Bx.fill11 {W : World} {b : Nat} {z0 z1 z2 z3 z4 z5 z6 z7 z8 z9 z10 : Value} (h : Bx W b [z0, z1, z2, z3, z4, z5, z6, z7, z8, z9, z10]) (x0 x1 x2 x3 x4 x5 x6 x7 x8 x9 x10 : Value) : Bx (((((((((((W.setCell ⟨b, 0, none⟩ x0).setCell ⟨b, 1, none⟩ x1).setCell ⟨b, 2, none⟩ x2).setCell ⟨b, 3, none⟩ x3).setCell ⟨b, 4, none⟩ x4).setCell ⟨b, 5, none⟩ x5).setCell ⟨b, 6, none⟩ x6).setCell ⟨b, 7, none⟩ x7).setCell ⟨b, 8, none⟩ x8).setCell ⟨b, 9, none⟩ x9).setCell ⟨b, 10, none⟩ x10) b [x0, x1, x2, x3, x4, x5, x6, x7, x8, x9, x10] := (((((((((((h.put 0 x0).put 1 x1).put 2 x2).put 3 x3).put 4 x4).put 5 x5).put 6 x6).put 7 x7).put 8 x8).put 9 x9).put 10 x10)
theorem Bx.fill3 {W : World} {b : Nat} {x0 x1 x2 x3 x4 x5 x6 x7 x8 x9 x10 : Value} (h : Bx W b [x0, x1, x2, x3, x4, x5, x6, x7, x8, x9, x10]) (y : Value) : Bx (W.setCell ⟨b, 3, none⟩ y) b [x0, x1, x2, y, x4, x5, x6, x7, x8, x9, x10] := h.put 3 y
theorem Bx.oth11 {W : World} {b c : Nat} {vs : List Value} (h : Bx W b vs) (hc : c ≠ b) (x0 x1 x2 x3 x4 x5 x6 x7 x8 x9 x10 : Value) : Bx (((((((((((W.setCell ⟨c, 0, none⟩ x0).setCell ⟨c, 1, none⟩ x1).setCell ⟨c, 2, none⟩ x2).setCell ⟨c, 3, none⟩ x3).setCell ⟨c, 4, none⟩ x4).setCell ⟨c, 5, none⟩ x5).setCell ⟨c, 6, none⟩ x6).setCell ⟨c, 7, none⟩ x7).setCell ⟨c, 8, none⟩ x8).setCell ⟨c, 9, none⟩ x9).setCell ⟨c, 10, none⟩ x10) b vs := (((((((((((h.other hc x0).other hc x1).other hc x2).other hc x3).other hc x4).other hc x5).other hc x6).other hc x7).other hc x8).other hc x9).other hc x10)
theorem Fx.fill11 {W : World} {b : Nat} (h : Fx W b) (c : Nat) (x0 x1 x2 x3 x4 x5 x6 x7 x8 x9 x10 : Value) : Fx (((((((((((W.setCell ⟨c, 0, none⟩ x0).setCell ⟨c, 1, none⟩ x1).setCell ⟨c, 2, none⟩ x2).setCell ⟨c, 3, none⟩ x3).setCell ⟨c, 4, none⟩ x4).setCell ⟨c, 5, none⟩ x5).setCell ⟨c, 6, none⟩ x6).setCell ⟨c, 7, none⟩ x7).setCell ⟨c, 8, none⟩ x8).setCell ⟨c, 9, none⟩ x9).setCell ⟨c, 10, none⟩ x10) b := (((((((((((h.put _ _).put _ _).put _ _).put _ _).put _ _).put _ _).put _ _).put _ _).put _ _).put _ _).put _ _)
end Go.Proofs.Ytgfpoohjbgdcpaa
