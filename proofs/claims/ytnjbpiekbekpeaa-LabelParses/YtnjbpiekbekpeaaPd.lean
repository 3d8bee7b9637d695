/-
  The answer's Parse: what lies in memory while it reads; append from whatever source.
-/
import Derived.Test.YtnjbpiekbekpeaaPc
import Derived.Test.YtnjbpiekbekpeaaX
import Derived.Test.YtnjbpiekbekpeaaZ
import Derived.Deep.RegionHeld3
import Derived.Deep.AppendLies
namespace Go.Proofs.Ytnjbpiekbekpeaa
open Go.ChangeShapes Go.WideShapes Go.ChangeAt Go.RowKit
theorem run_append_src {P : Program} (w : World) (base : Nat) (t ty e : TypeId) (i : TypeInfo) (z : Value) (size bytes : Nat) (ht : P.underlying t = some (.slice e)) (hi : P.info? e = some i) (hz : i.zero = some z)
    (hsize : i.size = size) (hby : i.bytes = bytes) (hzs : z.cells.size = size) (hsz : 0 < size)
    (v : Value) (n : Nat) (xs : List Value) (hown : w.ownsRow base e size v n xs)
    (sa : Option Addr) (m c : Nat) (news : List Value) (hl : news.length = m * size) (hsrc : (sa = none ∧ m = 0 ∧ c = 0) ∨ ∃ ad, sa = some ad ∧ ∀ j u, news[j]? = some u → w.cell? (ad.add j) = some u) (h1 : ∀ u ∈ news, u.oneCell' = true)
    (h63 : n + m ≤ maxLen) (hbytes : (n + m) * bytes ≤ 140737488355328) (hbase : base ≤ w.heap.size) :
    ∃ v' w', (Builtin.append_ #[t, t] ty #[v, .slice sa m c]).run P w = .ok v' w' ∧ w'.ownsRow base e size v' (n + m) (xs ++ news) ∧ w.grownBy w' v.ownBlock ∧ (v'.ownBlock = v.ownBlock ∨ v'.ownBlock = some w.heap.size) := by
  rcases hsrc with ⟨rfl, rfl, rfl⟩ | ⟨ad, rfl, hnews⟩
  · have hn : news = [] := List.eq_nil_of_length_eq_zero (by simpa using hl)
    subst hn
    exact ⟨v, w, run_append_owned_none (P := P) w base t ty e i size ht hi v n xs hown, by simpa using hown, ⟨rfl, rfl, rfl, Nat.le_refl _, fun _ _ _ => rfl⟩, .inl rfl⟩
  · obtain ⟨v', w', a1, a2, a3, _, a5⟩ := run_append_own_at (P := P) w base t ty e i z size bytes ht hi hz hsize hby hzs hsz v n xs hown ad m c news hl hnews h1 h63 hbytes hbase
    exact ⟨v', w', a1, a2, a3, a5⟩
theorem wp_append_src {P : Program} {o : Oper} {a : Act} (w : World) {K : Act → World → Prop} {Q : Exit → Act → World → Prop} (s x : Operand) (t : TypeId)
    (ho : o.op = .call { callee := .builtin .append, args := #[s, x], argTypes := #[t, t] })
    (base : Nat) (e : TypeId) (i : TypeInfo) (z : Value) (size bytes : Nat) (ht : P.underlying t = some (.slice e)) (hi : P.info? e = some i) (hz : i.zero = some z)
    (hsize : i.size = size) (hby : i.bytes = bytes) (hzs : z.cells.size = size) (hsz : 0 < size)
    (v : Value) (n : Nat) (xs : List Value) (hs : a.eval s = v) (hown : w.ownsRow base e size v n xs)
    (sa : Option Addr) (m c : Nat) (news : List Value) (hx : a.eval x = .slice sa m c) (hl : news.length = m * size) (hsrc : (sa = none ∧ m = 0 ∧ c = 0) ∨ ∃ ad, sa = some ad ∧ ∀ j u, news[j]? = some u → w.cell? (ad.add j) = some u) (h1 : ∀ u ∈ news, u.oneCell' = true)
    (h63 : n + m ≤ maxLen) (hbytes : (n + m) * bytes ≤ 140737488355328) (hbase : base ≤ w.heap.size)
    (h : ∀ v' w', w'.ownsRow base e size v' (n + m) (xs ++ news) → w.grownBy w' v.ownBlock → (∀ k, v.ownBlock = some k → base ≤ k) → K (a.put o.dst v') w') :
    o.wp P a w K Q := by
  obtain ⟨v', w', hr, h2, h3, -⟩ := run_append_src (P := P) w base t o.type e i z size bytes ht hi hz hsize hby hzs hsz v n xs hown sa m c news hl hsrc h1 h63 hbytes hbase
  unfold Oper.wp execOp
  simp only [ho, resolve, invoke, builtin, Sem.run_bind, Sem.run_pure, Result.andThen_ok, List.map_toArray, List.map_cons, List.map_nil, hs, hx, hr]
  exact h v' w' h2 h3 (fun k hk => (hown.lt k hk).1)
/-- the answer's box, the series' box, and its row of labels -/
def PW (w : World) (nm : ByteArray) (lv : Value) (acc : List Lab) (wr : World) : Prop :=
  Below w.heap.size w wr ∧ w.heap.size + 2 ≤ wr.heap.size ∧
  (wr.cell? ⟨w.heap.size, 0, none⟩ = some (.string ⟨#[]⟩) ∧ wr.cell? ⟨w.heap.size, 1, none⟩ = some (.slice none 0 0) ∧ wr.frozen? ⟨w.heap.size, 0, none⟩ = false ∧ wr.frozen? ⟨w.heap.size, 1, none⟩ = false) ∧
  (wr.cell? ⟨w.heap.size + 1, 0, none⟩ = some (.string nm) ∧ wr.cell? ⟨w.heap.size + 1, 1, none⟩ = some lv ∧ wr.frozen? ⟨w.heap.size + 1, 1, none⟩ = false) ∧
  wr.ownsRow (w.heap.size + 2) 46 2 lv acc.length (cellsLb acc)
theorem below_grownBy {a b : World} (h : Below a.heap.size a b) (row : Option Nat) : a.grownBy b row := ⟨h.os, h.tape, h.output, h.size, fun k hk _ => h.block k hk⟩
theorem own_below {a b : World} {B : Nat} {v : Value} {n : Nat} {xs : List Value} (h : a.ownsRow B 46 2 v n xs) (hb : Below a.heap.size a b) : b.ownsRow B 46 2 v n xs := by
  refine h.kept (below_grownBy hb none) ?_
  cases hv : v.ownBlock <;> simp
theorem PW.below {w : World} {nm : ByteArray} {lv : Value} {acc : List Lab} {wr wr' : World} (h : PW w nm lv acc wr) (hb : Below wr.heap.size wr wr') : PW w nm lv acc wr' := by
  obtain ⟨h1, h2, ⟨a1, a2, a3, a4⟩, ⟨b1, b2, b3⟩, h5⟩ := h
  have l0 : w.heap.size < wr.heap.size := by omega
  have l1 : w.heap.size + 1 < wr.heap.size := by omega
  exact ⟨h1.trans (hb.mono h1.size), Nat.le_trans h2 hb.size,
    ⟨(hb.cell (p := ⟨w.heap.size, 0, none⟩) l0).trans a1, (hb.cell (p := ⟨w.heap.size, 1, none⟩) l0).trans a2, (hb.frozen (p := ⟨w.heap.size, 0, none⟩) l0).trans a3, (hb.frozen (p := ⟨w.heap.size, 1, none⟩) l0).trans a4⟩,
    ⟨(hb.cell (p := ⟨w.heap.size + 1, 0, none⟩) l1).trans b1, (hb.cell (p := ⟨w.heap.size + 1, 1, none⟩) l1).trans b2, (hb.frozen (p := ⟨w.heap.size + 1, 1, none⟩) l1).trans b3⟩, own_below h5 hb⟩
theorem PW.store {w : World} {nm : ByteArray} {lv v : Value} {acc acc' : List Lab} {wr : World} (h : PW w nm lv acc wr) (hown : wr.ownsRow (w.heap.size + 2) 46 2 v acc'.length (cellsLb acc')) :
    PW w nm v acc' (wr.setCell ⟨w.heap.size + 1, 1, none⟩ v) := by
  obtain ⟨h1, h2, ⟨a1, a2, a3, a4⟩, ⟨b1, b2, b3⟩, h5⟩ := h
  have n0 : ∀ j, (⟨w.heap.size, j, none⟩ : Addr) ≠ ⟨w.heap.size + 1, 1, none⟩ := fun j e => by have := congrArg Addr.block e; simp at this
  have n1 : (⟨w.heap.size + 1, 0, none⟩ : Addr) ≠ ⟨w.heap.size + 1, 1, none⟩ := fun e => by have := congrArg Addr.off e; simp at this
  refine ⟨h1.setCell (show w.heap.size ≤ w.heap.size + 1 from Nat.le_succ _) _, by simp; omega, ⟨?_, ?_, ?_, ?_⟩, ⟨?_, ?_, ?_⟩, ?_⟩
  · rw [World.cell?_setCell_other _ _ _ _ (n0 0).symm]; exact a1
  · rw [World.cell?_setCell_other _ _ _ _ (n0 1).symm]; exact a2
  · simp; exact a3
  · simp; exact a4
  · rw [World.cell?_setCell_other _ _ _ _ n1.symm]; exact b1
  · exact World.cell?_setCell_same _ _ _ b2
  · simp; exact b3
  · refine hown.kept (row := some (w.heap.size + 1)) ⟨rfl, rfl, rfl, by simp, fun k _ hk => Below.heap_setCell _ _ _ k (fun e => hk (by rw [e]))⟩ (.inr fun e => ?_)
    have := (hown.lt _ e).1
    omega
theorem labs_at {w : World} {B : Nat} {a : Option Addr} {cap : Nat} {ls : List Lab} (h : w.ownsRow B 46 2 (.slice a ls.length cap) ls.length (cellsLb ls)) : LabsAt w a ls.length cap ls := by
  obtain ⟨a', cap', e, hL⟩ := labs_own h
  simp at e
  obtain ⟨rfl, rfl⟩ := e
  exact hL
theorem own_at0 {w : World} {B : Nat} {a : Option Addr} {len cap n : Nat} {xs : List Value} (h : w.ownsRow B 46 2 (.slice a len cap) n xs) : ∀ x, a = some x → ∃ g, x = ⟨g, 0, none⟩ ∧ B ≤ g := by
  intro x hx
  subst hx
  rcases h.2 with ⟨h, _⟩ | ⟨g, cap', cur, h, hb, _⟩
  · simp at h
  · simp at h
    exact ⟨g, h.1, hb⟩
theorem own_none {w : World} {B : Nat} {a : Option Addr} {len cap n : Nat} {xs : List Value} (h : w.ownsRow B 46 2 (.slice a len cap) n xs) : a = none → len = 0 ∧ cap = 0 := by
  intro hx
  subst hx
  rcases h.2 with ⟨h, _⟩ | ⟨g, cap', cur, h, _⟩
  · simpa using h
  · simp at h
theorem own_mono {w : World} {B B' : Nat} {v : Value} {n : Nat} {xs : List Value} (h : w.ownsRow B 46 2 v n xs) (hB : B' ≤ B) : w.ownsRow B' 46 2 v n xs := by
  refine ⟨h.1, h.2.imp_right ?_⟩
  rintro ⟨g, cap, cur, h1, h2, h3⟩
  exact ⟨g, cap, cur, h1, Nat.le_trans hB h2, h3⟩
theorem push_new (h0 : Array Obj) (o : Obj) : (h0.push o)[h0.size]? = some o := by simp
theorem push_old (h0 : Array Obj) (o : Obj) {k : Nat} {x : Obj} (h : h0[k]? = some x) : (h0.push o)[k]? = some x := by
  have hk : k < h0.size := (Array.getElem?_eq_some_iff.1 h).1
  rw [Array.getElem?_push_lt hk]
  rw [Array.getElem?_eq_getElem hk] at h
  exact h
theorem lit_own_h {W : World} (h0 : Array Obj) {h B : Nat} (hH : W.heap = h0.push (.cells #[] 46)) (hh : h0.size = h) (hB : B ≤ h) : W.ownsRow B 46 2 (.slice (some ⟨h, 0, none⟩) 0 0) 0 [] := by
  subst hh
  exact ⟨rfl, .inr ⟨h0.size, 0, #[], rfl, hB, by rw [hH]; exact push_new _ _, Nat.le_refl _, Nat.zero_le _, rfl, rfl⟩⟩
theorem lit_own_h2 {W : World} (h0 : Array Obj) (o : Obj) {h B : Nat} (hH : W.heap = (h0.push (.cells #[] 46)).push o) (hh : h0.size = h) (hB : B ≤ h) : W.ownsRow B 46 2 (.slice (some ⟨h, 0, none⟩) 0 0) 0 [] := by
  subst hh
  exact ⟨rfl, .inr ⟨h0.size, 0, #[], rfl, hB, by rw [hH]; exact push_old _ _ (push_new _ _), Nat.le_refl _, Nat.zero_le _, rfl, rfl⟩⟩
theorem own_push {W W' : World} (o : Obj) {B : Nat} {v : Value} {n : Nat} {xs : List Value} (h : W.ownsRow B 46 2 v n xs) (hH : W'.heap = W.heap.push o) : W'.ownsRow B 46 2 v n xs := by
  refine ⟨h.1, h.2.imp_right ?_⟩
  rintro ⟨g, cap, cur, h1, h2, h3, h4⟩
  exact ⟨g, cap, cur, h1, h2, by rw [hH]; exact push_old _ _ h3, h4⟩
theorem own_same {W W' : World} {B : Nat} {v : Value} {n : Nat} {xs : List Value} (h : W.ownsRow B 46 2 v n xs) (hH : W'.heap = W.heap) : W'.ownsRow B 46 2 v n xs := by
  refine ⟨h.1, h.2.imp_right ?_⟩
  rintro ⟨g, cap, cur, h1, h2, h3, h4⟩
  exact ⟨g, cap, cur, h1, h2, by rw [hH]; exact h3, h4⟩
theorem two_of {W : World} {b : Nat} {x y : Value} (h : W.heap[b]? = some (.cells #[x, y] 46)) : ∀ j u, ([x, y] : List Value)[j]? = some u → W.cell? ((⟨b, 0, none⟩ : Addr).add j) = some u := World.news_of_block h
theorem two_h {W : World} (h0 : Array Obj) {b : Nat} {x y : Value} (hH : W.heap = h0.push (.cells #[x, y] 46)) (hb : h0.size = b) : ∀ j u, ([x, y] : List Value)[j]? = some u → W.cell? ((⟨b, 0, none⟩ : Addr).add j) = some u :=
  two_of (by rw [hH, ← hb]; exact push_new _ _)
theorem two_h2 {W : World} (h0 : Array Obj) (o : Obj) {b : Nat} {x y : Value} (hH : W.heap = (h0.push (.cells #[x, y] 46)).push o) (hb : h0.size = b) : ∀ j u, ([x, y] : List Value)[j]? = some u → W.cell? ((⟨b, 0, none⟩ : Addr).add j) = some u :=
  two_of (by rw [hH, ← hb]; exact push_old _ _ (push_new _ _))
theorem two_grown {W W' : World} {row : Option Nat} {b : Nat} {x y : Value} (hc : ∀ j u, ([x, y] : List Value)[j]? = some u → W.cell? ((⟨b, 0, none⟩ : Addr).add j) = some u) (hg : W.grownBy W' row) (hlt : b < W.heap.size) (hne : some b ≠ row) {W'' : World} (hH : W''.heap = W'.heap) : ∀ j u, ([x, y] : List Value)[j]? = some u → W''.cell? ((⟨b, 0, none⟩ : Addr).add j) = some u := fun j u hu => by
  have := hc j u hu
  rw [addr_add] at this ⊢
  rw [World.cell?_of_block (w := W') (w' := W'') (a := ⟨b, 0 + j, none⟩) (by rw [hH]), hg.cell_far ⟨b, 0 + j, none⟩ hlt hne]
  exact this
theorem bel_grown {w4 W W' : World} {row : Option Nat} (h : Below w4.heap.size w4 W) (hg : W.grownBy W' row) (hr : ∀ k, row = some k → w4.heap.size ≤ k) : Below w4.heap.size w4 W' := h.grown hg h.size hr
theorem cellsLb_take (ls : List Lab) (k : Nat) : cellsLb (ls.take k) = (cellsLb ls).take (k * 2) := by
  induction ls generalizing k with
  | nil => simp [cellsLb]
  | cons x l ih =>
    cases k with
    | zero => simp [cellsLb]
    | succ k =>
      have h := ih k
      simp only [cellsLb, List.take_succ_cons, List.flatMap_cons] at h ⊢
      rw [h, show (k + 1) * 2 = k * 2 + 2 from by omega]
      simp
theorem cellsLb_drop (ls : List Lab) (k : Nat) : cellsLb (ls.drop k) = (cellsLb ls).drop (k * 2) := by
  induction ls generalizing k with
  | nil => simp [cellsLb]
  | cons x l ih =>
    cases k with
    | zero => simp [cellsLb]
    | succ k =>
      have h := ih k
      simp only [cellsLb, List.drop_succ_cons, List.flatMap_cons] at h ⊢
      rw [h, show (k + 1) * 2 = k * 2 + 2 from by omega]
      simp
theorem cellsLb_one (ls : List Lab) : ∀ u ∈ cellsLb ls, u.oneCell' = true := by
  intro u hu
  unfold cellsLb at hu
  obtain ⟨x, _, hx⟩ := List.mem_flatMap.1 hu
  exact one_two x.1 x.2 u hx
theorem cellsLb_app (l m : List Lab) : cellsLb (l ++ m) = cellsLb l ++ cellsLb m := by simp [cellsLb]
/-- the first labels of a row, as a source -/
theorem src_take {w : World} {B g cap : Nat} {ls : List Lab} (h : w.ownsRow B 46 2 (.slice (some ⟨g, 0, none⟩) ls.length cap) ls.length (cellsLb ls)) (k : Nat) (hk : k ≤ ls.length) :
    ∀ j u, (cellsLb (ls.take k))[j]? = some u → w.cell? ((⟨g, 0, none⟩ : Addr).add j) = some u := fun j u hu => by
  have hj : j < k * 2 := by
    have := (List.getElem?_eq_some_iff.1 hu).1
    rw [cellsLb_length, List.length_take] at this
    omega
  rw [addr_add, Nat.zero_add, h.cellAt j (by omega), ← hu, cellsLb_take, List.getElem?_take, if_pos hj]
theorem src_drop {w : World} {B g cap : Nat} {ls : List Lab} (h : w.ownsRow B 46 2 (.slice (some ⟨g, 0, none⟩) ls.length cap) ls.length (cellsLb ls)) (k : Nat) :
    ∀ j u, (cellsLb (ls.drop k))[j]? = some u → w.cell? ((⟨g, k * 2, none⟩ : Addr).add j) = some u := fun j u hu => by
  have hj : k * 2 + j < ls.length * 2 := by
    have := (List.getElem?_eq_some_iff.1 hu).1
    rw [cellsLb_length, List.length_drop] at this
    omega
  rw [addr_add, h.cellAt _ hj, ← hu, cellsLb_drop, List.getElem?_drop]
/-- a label's box, the youngest block -/
def BoxL (w1 : World) (n v : ByteArray) (wr : World) : Prop :=
  (Below w1.heap.size w1 wr ∧ w1.heap.size < wr.heap.size) ∧ wr.cell? ⟨w1.heap.size, 0, none⟩ = some (.string n) ∧ wr.cell? ⟨w1.heap.size, 1, none⟩ = some (.string v) ∧ wr.frozen? ⟨w1.heap.size, 1, none⟩ = false
theorem BoxL.set {w1 : World} {n v : ByteArray} {wr : World} (h : BoxL w1 n v wr) (u : ByteArray) : BoxL w1 n u ((wr.setCell ⟨w1.heap.size, 1, none⟩ (.string u)).drew) := by
  obtain ⟨⟨h1, h2⟩, h3, h4, h5⟩ := h
  refine ⟨⟨(h1.setCell (Nat.le_refl _) _).drew, by simpa using h2⟩, ?_, ?_, ?_⟩
  · show (wr.setCell ⟨w1.heap.size, 1, none⟩ (.string u)).cell? _ = _
    rw [World.cell?_setCell_other _ _ _ _ (by intro h; simpa using congrArg Addr.off h)]; exact h3
  · exact World.cell?_setCell_same _ _ _ h4
  · show (wr.setCell ⟨w1.heap.size, 1, none⟩ (.string u)).frozen? _ = _
    simpa using h5
theorem BoxL.below {w1 : World} {n v : ByteArray} {wr wr' : World} (h : BoxL w1 n v wr) (hb : Below wr.heap.size wr wr') : BoxL w1 n v wr' := by
  obtain ⟨⟨h1, h2⟩, h3, h4, h5⟩ := h
  exact ⟨⟨h1.trans (hb.mono h1.size), Nat.lt_of_lt_of_le h2 hb.size⟩, (hb.cell (p := ⟨w1.heap.size, 0, none⟩) h2).trans h3, (hb.cell (p := ⟨w1.heap.size, 1, none⟩) h2).trans h4, (hb.frozen (p := ⟨w1.heap.size, 1, none⟩) h2).trans h5⟩
/-- what is asked of the answer's Parse, by its plain reading -/
theorem refPost_yes {w w' : World} {s nm : ByteArray} {ls : List Lab} {v : Value} (hb : Below w.heap.size w w') (hr : refP (sg s) = some (nm, ls)) (hM : MayS nm ls) (hs : SerAt w' v nm ls) : RefParsePost w s (.returned (.tuple #[v, .bool true])) w' :=
  ⟨hb, .inl ⟨v, nm, ls, rfl, hs, refP_parses hr hM⟩⟩
theorem refPost_no {w w' : World} {s : ByteArray} (hb : Below w.heap.size w w') (hr : ∀ nm ls, refP (sg s) = some (nm, ls) → ¬ MayS nm ls) : RefParsePost w s (.returned (.tuple #[noSer, .bool false])) w' :=
  ⟨hb, .inr ⟨rfl, fun nm ls h => hr nm ls (parses_refP h) (by obtain ⟨st, _, _, _, _, _, h6⟩ := h; exact h6)⟩⟩
end Go.Proofs.Ytnjbpiekbekpeaa
