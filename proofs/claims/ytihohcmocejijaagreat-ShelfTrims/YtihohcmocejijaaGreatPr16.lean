/-
  slices.IndexFunc and slices.DeleteFunc of Lines.
  copied of lines, of samples, of what was told.
-/
import Derived.Test.YtihohcmocejijaaGreatPr15
import Derived.Test.YtihohcmocejijaaGreatPr10
namespace Go.Proofs.YtihohcmocejijaaGreat.Bk
open Go.ChangeShapes Go.WideShapes Go.ChangeAt Go.RowKit
theorem own_caps {w : World} {B T sz n : Nat} {a : Option Addr} {cap : Nat} {xs : List Value} (h : w.ownsRow B T sz (.slice a n cap) n xs) : n ≤ cap ∧ cap ≤ maxLen ∧ (a = none → cap = 0) := by
  rcases h.2 with ⟨e, h0⟩ | ⟨g, cap', cur, hv, hB, hh, hcc, hcm, -⟩
  · injection e with e1 e2 e3
    subst e1 e2 e3
    exact ⟨Nat.le_refl _, Nat.zero_le _, fun _ => rfl⟩
  · injection hv with ha hn hc'
    subst ha
    exact ⟨by omega, by omega, fun h => by simp at h⟩
theorem set_grownBy (w : World) (b i : Nat) (v : Value) : w.grownBy (w.setCell ⟨b, i, none⟩ v) (some b) := by
  refine ⟨rfl, rfl, rfl, by simp, fun k hk hne => ?_⟩
  have hkb : k ≠ b := fun h => hne (by rw [h])
  simp [World.setCell, Array.getElem?_modify, Ne.symm hkb]
theorem own_alloc {w : World} {B T m : Nat} {v : Value} {n : Nat} {xs : List Value} (h : w.ownsRow B T m v n xs) (o : Obj) : (w.alloc o).ownsRow B T m v n xs := own_below h (below_alloc w o)
def FirstA {α : Type} (d : α) (p : α → Bool) (l : List α) (e : Ending) : Prop := (∃ k : Nat, e = .returned (.int .i64 (k : Int)) ∧ k < l.length ∧ p (l.getD k d) = true ∧ ∀ j, j < k → p (l.getD j d) = false) ∨ (e = .returned (.int .i64 (-1)) ∧ ∀ j, j < l.length → p (l.getD j d) = false)
def KA {α : Type} (d : α) (p : α → Bool) (l L : List α) (i j : Nat) : Prop := L.length = l.length ∧ i < j ∧ j ≤ l.length ∧ L.take i = (l.take j).filter (fun x => !p x) ∧ ∀ t, j ≤ t → L.getD t d = l.getD t d
theorem KA.start {α : Type} {d : α} {p : α → Bool} {l : List α} {k : Nat} (hk : k < l.length) (h1 : p (l.getD k d) = true) (h2 : ∀ j, j < k → p (l.getD j d) = false) : KA d p l l k (k + 1) := by
  refine ⟨rfl, by omega, by omega, ?_, fun t _ => rfl⟩
  have e : l.getD k d = l[k] := by simp [hk]
  rw [List.take_succ_eq_append_getElem hk, List.filter_append, List.filter_cons_of_neg (by rw [← e, h1]; simp), List.filter_nil, List.append_nil]
  symm
  rw [List.filter_eq_self]
  intro x hx
  obtain ⟨j, hj, rfl⟩ := List.getElem_of_mem hx
  rw [List.length_take] at hj
  have := h2 j (by omega)
  rw [List.getElem_take]
  rw [show l.getD j d = l[j] by simp [show j < l.length by omega]] at this
  rw [this]
  rfl
theorem KA.skip {α : Type} {d : α} {p : α → Bool} {l L : List α} {i j : Nat} (h : KA d p l L i j) (hj : j < l.length) (h1 : p (l.getD j d) = true) : KA d p l L i (j + 1) := by
  obtain ⟨a1, a2, a3, a4, a5⟩ := h
  refine ⟨a1, by omega, by omega, ?_, fun t ht => a5 t (by omega)⟩
  have e : l.getD j d = l[j] := by simp [hj]
  rw [List.take_succ_eq_append_getElem hj, List.filter_append, List.filter_cons_of_neg (by rw [← e, h1]; simp), List.filter_nil, List.append_nil]
  exact a4
theorem KA.keep {α : Type} {d : α} {p : α → Bool} {l L : List α} {i j : Nat} (h : KA d p l L i j) (hj : j < l.length) (h1 : p (l.getD j d) = false) : KA d p l (L.set i (l.getD j d)) (i + 1) (j + 1) := by
  obtain ⟨a1, a2, a3, a4, a5⟩ := h
  refine ⟨by simp [a1], by omega, by omega, ?_, fun t ht => ?_⟩
  · have e : l.getD j d = l[j] := by simp [hj]
    rw [List.take_succ_eq_append_getElem hj, List.filter_append, List.filter_cons_of_pos (by rw [← e, h1]; rfl), List.filter_nil, ← a4, e, List.take_succ_eq_append_getElem (by simp [a1]; omega), List.take_set_of_le (Nat.le_refl _)]
    simp
  · have := a5 t (by omega)
    simp only [List.getD_eq_getElem?_getD] at *
    rw [List.getElem?_set_ne (by omega)]
    exact this
structure SpX where
  g : ByteArray
  a : Option Addr
  n : Nat
  c : Nat
  ns : List Sm
def sp0 : SpX := ⟨⟨#[]⟩, none, 0, 0, []⟩
def spP (l : List SpX) : List LX := l.map fun x => (x.g, .slice x.a x.n x.c, x.ns)
theorem spP_len (l : List SpX) : (spP l).length = l.length := by simp [spP]
theorem spP_get (l : List SpX) (k : Nat) (h : k < l.length) : (cellsX (spP l))[k * 2]? = some (.string (l.getD k sp0).g) ∧ (cellsX (spP l))[k * 2 + 1]? = some (.slice (l.getD k sp0).a (l.getD k sp0).n (l.getD k sp0).c) := by
  have hp := cellsX_at (spP l) k (by rw [spP_len]; exact h)
  have e : (spP l).getD k lx0 = ((l.getD k sp0).g, .slice (l.getD k sp0).a (l.getD k sp0).n (l.getD k sp0).c, (l.getD k sp0).ns) := by simp [spP, h]
  rw [e] at hp
  exact hp
theorem spP_set (l : List SpX) (k : Nat) (x : SpX) (h : k < l.length) : ((cellsX (spP l)).set (k * 2) (.string x.g)).set (k * 2 + 1) (.slice x.a x.n x.c) = cellsX (spP (l.set k x)) := by
  induction l generalizing k with
  | nil => simp at h
  | cons a l ih =>
    cases k with
    | zero => simp [cellsX, spP]
    | succ k =>
      have e := ih k (by simpa using h)
      rw [show (k + 1) * 2 = k * 2 + 1 + 1 from by omega]
      simp only [cellsX, spP, List.map_cons, List.flatMap_cons, List.set_cons_succ, List.cons_append, List.nil_append] at e ⊢
      rw [e]
theorem grownBy_more {a b c : World} {g : Nat} (h : a.grownBy b (some g)) (hb : Below b.heap.size b c) : a.grownBy c (some g) := grownBy_trans h (below_grownBy hb _)
set_option maxHeartbeats 1000000 in
set_option maxRecDepth 60000 in
theorem idxLn_any {g n cap N : Nat} {w : World} {l : List SpX} {p : SpX → Bool} (hp : ∀ W x, x ∈ l → w.grownBy W (some g) → Calls Tryz.prog 81 #[.agg #[.string x.g, .slice x.a x.n x.c]] W fun e w' => e = .returned (.bool (p x)) ∧ Below W.heap.size W w')
    (hO : w.ownsRow N 55 2 (.slice (some ⟨g, 0, none⟩) n cap) n (cellsX (spP l))) (h64 : n ≤ 104) :
    Calls Tryz.prog 116 #[.slice (some ⟨g, 0, none⟩) n cap, .func (.func 81) #[] #[]] w fun e w' => FirstA sp0 p l e ∧ Below w.heap.size w w' := by
  have HP : Hid (∀ W x, x ∈ l → w.grownBy W (some g) → Calls Tryz.prog 81 #[.agg #[.string x.g, .slice x.a x.n x.c]] W fun e w' => e = .returned (.bool (p x)) ∧ Below W.heap.size W w') := hp
  have HN : Hid (l.length = n) := by
    have := hO.1
    rw [cellsX_length, spP_len] at this
    show _ = _
    omega
  have HO : Hid (w.ownsRow N 55 2 (.slice (some ⟨g, 0, none⟩) n cap) n (cellsX (spP l))) := hO
  have h64' : (n : Int) ≤ 104 := by omega
  clear hp hO h64
  go_enter Tryz.func116, Tryz.ntmps116
  go_wp2_with fail
  go_loopw [8] (fun i wr => ∃ k : Nat, k ≤ n ∧ i = .int .i64 k ∧ Below w.heap.size w wr ∧ Hid (∀ j, j < k → p (l.getD j sp0) = false)) (fun i _ => n - (intOf i).toNat)
  case atStart => exact ⟨0, Nat.zero_le _, rfl, Below.refl _ _, fun j hj => absurd hj (Nat.not_lt_zero _)⟩
  case round =>
    obtain ⟨k, hk, rfl, hbel, hT⟩ := hrel
    by_cases hlt : k < n
    · have hk1 : (k : Int) < (n : Int) := by omega
      have hk0 : (0 : Int) ≤ (k : Int) := by omega
      have hkl : k < l.length := by have := HN.out; omega
      have hor := own_below HO.out hbel
      have hsp := spP_get l k hkl
      have x0 := (hor.cellAt (k * 2) (by omega)).trans hsp.1
      have x1 := (hor.cellAt (k * 2 + 1) (by omega)).trans hsp.2
      have hmem : l.getD k sp0 ∈ l := by
        rw [show l.getD k sp0 = l[k] by simp [hkl]]
        exact List.getElem_mem hkl
      have HC := HP.out wr (l.getD k sp0) hmem (below_grownBy hbel _)
      have HY : Hid (p (l.getD k sp0) = true → FirstA sp0 p l (.returned (.int .i64 (k : Int)))) := fun h => .inl ⟨k, rfl, hkl, h, hT.out⟩
      have HNX : Hid (p (l.getD k sp0) = false → ∀ j, j < k + 1 → p (l.getD j sp0) = false) := fun h j hj => by
        by_cases e : j = k
        · rw [e]; exact h
        · exact hT.out j (by omega)
      clear hor hsp hmem hT
      generalize l.getD k sp0 = y at *
      obtain ⟨y1, ya, yn, yc, y3⟩ := y
      have HC' : Hid (Calls Tryz.prog 81 #[.agg #[.string y1, .slice ya yn yc]] wr fun e w' => e = .returned (.bool (p ⟨y1, ya, yn, yc, y3⟩)) ∧ Below wr.heap.size wr w') := HC
      clear HC
      simp only at x0 x1
      generalize hq : p (SpX.mk y1 ya yn yc y3) = q at *
      cases q with
      | true =>
        have HY' := HY.out rfl
        have HF : Hid (FirstA sp0 p l (.returned (.int .i64 (k : Int)))) := HY'
        clear HY HY' HNX hq
        go_wp2_with (go_at_call 81; refine HC'.out.mono ?_; rintro e w4 ⟨rfl, hb4⟩)
        go_ret
        exact ⟨HF.out, below2 hbel hb4⟩
      | false =>
        have HX : Hid (∀ j, j < k + 1 → p (l.getD j sp0) = false) := HNX.out rfl
        clear HY HNX hq
        go_wp2_with (go_at_call 81; refine HC'.out.mono ?_; rintro e w4 ⟨rfl, hb4⟩)
        exact ⟨⟨k + 1, by omega, by go_num, below2 hbel hb4, HX⟩, by simp [intOf]; omega⟩
    · obtain rfl : k = n := by omega
      have HF : Hid (FirstA sp0 p l (.returned (.int .i64 (-1)))) := .inr ⟨rfl, fun j hj => hT.out j (by have := HN.out; omega)⟩
      clear hT
      go_wp2_with fail
      go_ret
      exact ⟨HF.out, hbel⟩
theorem zero2_one (k : Nat) : ∀ u ∈ (Builtin.zeroCells (Value.cells (.agg #[.string ⟨#[]⟩, .slice none 0 0])) k).toList, u.oneCell' = true := by
  intro u hu
  have e : Value.cells (.agg #[.string ⟨#[]⟩, .slice none 0 0]) = #[.string ⟨#[]⟩, .slice none 0 0] := by kernel_rfl
  rw [e] at hu
  simp only [Builtin.zeroCells, Array.toList_map, List.mem_map] at hu
  obtain ⟨i, -, rfl⟩ := hu
  have h2 : i % (#[Value.string ⟨#[]⟩, Value.slice none 0 0] : Array Value).size = 0 ∨ i % (#[Value.string ⟨#[]⟩, Value.slice none 0 0] : Array Value).size = 1 := by
    show i % 2 = 0 ∨ i % 2 = 1
    omega
  rcases h2 with h | h
  · rw [h]; rfl
  · rw [h]; rfl
set_option maxHeartbeats 2000000 in
set_option maxRecDepth 60000 in
theorem delLn_any {g n cap N : Nat} {w : World} {l : List SpX} {p : SpX → Bool} (hp : ∀ W x, x ∈ l → w.grownBy W (some g) → Calls Tryz.prog 81 #[.agg #[.string x.g, .slice x.a x.n x.c]] W fun e w' => e = .returned (.bool (p x)) ∧ Below W.heap.size W w')
    (hO : w.ownsRow N 55 2 (.slice (some ⟨g, 0, none⟩) n cap) n (cellsX (spP l))) (h64 : n ≤ 104) :
    Calls Tryz.prog 80 #[.slice (some ⟨g, 0, none⟩) n cap, .func (.func 81) #[] #[]] w fun e w' => e = .returned (.slice (some ⟨g, 0, none⟩) (l.filter fun x => !p x).length cap) ∧ w'.ownsRow N 55 2 (.slice (some ⟨g, 0, none⟩) (l.filter fun x => !p x).length cap) (l.filter fun x => !p x).length (cellsX (spP (l.filter fun x => !p x))) ∧ w.grownBy w' (some g) := by
  have HI : Hid (Calls Tryz.prog 116 #[.slice (some ⟨g, 0, none⟩) n cap, .func (.func 81) #[] #[]] w fun e w' => FirstA sp0 p l e ∧ Below w.heap.size w w') := idxLn_any hp hO h64
  have HP : Hid (∀ W x, x ∈ l → w.grownBy W (some g) → Calls Tryz.prog 81 #[.agg #[.string x.g, .slice x.a x.n x.c]] W fun e w' => e = .returned (.bool (p x)) ∧ Below W.heap.size W w') := hp
  have HN : Hid (l.length = n) := by
    have := hO.1
    rw [cellsX_length, spP_len] at this
    show _ = _
    omega
  have HO : Hid (w.ownsRow N 55 2 (.slice (some ⟨g, 0, none⟩) n cap) n (cellsX (spP l))) := hO
  have hcap := (own_caps hO).2.1
  have hncap := (own_caps hO).1
  have hcap' : (cap : Int) ≤ 9223372036854775807 := by unfold maxLen at hcap; omega
  have hnc' : (n : Int) ≤ (cap : Int) := by omega
  have HCM := Hid.mk9 hcap
  have h64' : (n : Int) ≤ 104 := by omega
  clear hp hO h64 hcap
  go_enter Tryz.func80, Tryz.ntmps80
  go_wp2_with fail
  refine HI.out.mono ?_
  rintro e w2 ⟨⟨k, rfl, hk, hy, hno⟩ | ⟨rfl, hno⟩, hb2⟩
  · have HK : Hid (KA sp0 p l l k (k + 1)) := KA.start hk hy hno
    have hkn : k < n := by have := HN.out; omega
    have hk0 : (0 : Int) ≤ (k : Int) := by omega
    have hk1 : (k : Int) < (n : Int) := by omega
    have hke : ((k : Int) == -1) = false := beq_eq_false_iff_ne.2 (by omega)
    have HO2 : Hid (w2.ownsRow N 55 2 (.slice (some ⟨g, 0, none⟩) n cap) n (cellsX (spP l))) := own_below HO.out hb2
    have hB2 : w.grownBy w2 (some g) := below_grownBy hb2 _
    clear hk hy hno HI HO hb2
    go_wp2_with fail
    go_loopw [5, 6] (fun si sj wr => ∃ (i j : Nat) (L : List SpX), si = .int .i64 i ∧ sj = .int .i64 j ∧ i < j ∧ j ≤ n ∧ Hid (KA sp0 p l L i j) ∧ Hid (wr.ownsRow N 55 2 (.slice (some ⟨g, 0, none⟩) n cap) n (cellsX (spP L))) ∧ Hid (w.grownBy wr (some g))) (fun _ sj _ => n - (intOf sj).toNat)
    case atStart => exact ⟨k, k + 1, l, rfl, by go_num, by omega, by omega, HK, HO2, hB2⟩
    case round =>
      obtain ⟨i, j, L, rfl, rfl, hij, hjn, hK, hO, hB⟩ := hrel
      have hi0 : (0 : Int) ≤ (i : Int) := by omega
      have hin : (i : Int) < (n : Int) := by omega
      have hj0 : (0 : Int) ≤ (j : Int) := by omega
      have hjn' : (j : Int) ≤ (n : Int) := by omega
      have hLl : L.length = n := by have := hK.out.1; have := HN.out; omega
      clear HK HO2 hB2
      by_cases hlt : j < n
      · have hlt' : (j : Int) < (n : Int) := by omega
        have hjl : j < l.length := by have := HN.out; omega
        have HH := hK.out.2.2.2.2 j (Nat.le_refl _)
        have hsp := spP_get L j (by omega)
        have x0 := (hO.out.cellAt (j * 2) (by omega)).trans hsp.1
        have x1 := (hO.out.cellAt (j * 2 + 1) (by omega)).trans hsp.2
        rw [HH] at x0 x1
        have HS : Hid (p (l.getD j sp0) = true → KA sp0 p l L i (j + 1)) := fun h => hK.out.skip hjl h
        have HKE : Hid (p (l.getD j sp0) = false → KA sp0 p l (L.set i (l.getD j sp0)) (i + 1) (j + 1)) := fun h => hK.out.keep hjl h
        have hmem : l.getD j sp0 ∈ l := by
          rw [show l.getD j sp0 = l[j] by simp [hjl]]
          exact List.getElem_mem hjl
        have HCW : Hid (∀ W, w.grownBy W (some g) → Calls Tryz.prog 81 #[.agg #[.string (l.getD j sp0).g, .slice (l.getD j sp0).a (l.getD j sp0).n (l.getD j sp0).c]] W fun e w' => e = .returned (.bool (p (l.getD j sp0))) ∧ Below W.heap.size W w') := fun W h => HP.out W _ hmem h
        clear HH hK hsp hmem hjl
        generalize l.getD j sp0 = y at *
        obtain ⟨y1, ya, yn, yc, y3⟩ := y
        simp only at x0 x1
        have HA1 : Hid (w.grownBy (wr.alloc (.cells #[.string y1, .slice ya yn yc] 55)) (some g)) := grownBy_more hB.out (below_alloc _ _)
        have HC : Hid (Calls Tryz.prog 81 #[.agg #[.string y1, .slice ya yn yc]] (wr.alloc (.cells #[.string y1, .slice ya yn yc] 55)) fun e w' => e = .returned (.bool (p ⟨y1, ya, yn, yc, y3⟩)) ∧ Below (wr.alloc (.cells #[.string y1, .slice ya yn yc] 55)).heap.size (wr.alloc (.cells #[.string y1, .slice ya yn yc] 55)) w') := HCW.out _ HA1.out
        have HOA : Hid ((wr.alloc (.cells #[.string y1, .slice ya yn yc] 55)).ownsRow N 55 2 (.slice (some ⟨g, 0, none⟩) n cap) n (cellsX (spP L))) := own_alloc hO.out _
        have hgl : g < wr.heap.size := (hO.out.lt g rfl).2
        clear HCW hB hO
        generalize hq : p (SpX.mk y1 ya yn yc y3) = q at *
        cases q with
        | true =>
          have HS' : Hid (KA sp0 p l L i (j + 1)) := HS.out rfl
          clear HS HKE hq
          go_wp2_with (go_at_call 81; refine HC.out.mono ?_; rintro e w4 ⟨rfl, hb4⟩)
          exact ⟨⟨i, j + 1, L, rfl, by go_num, by omega, by omega, HS', own_below HOA.out hb4, grownBy_more HA1.out hb4⟩, by simp [intOf]; omega⟩
        | false =>
          have HS' : Hid (KA sp0 p l (L.set i ⟨y1, ya, yn, yc, y3⟩) (i + 1) (j + 1)) := HKE.out rfl
          have HBX : Hid (∀ W, Below (wr.alloc (.cells #[.string y1, .slice ya yn yc] 55)).heap.size (wr.alloc (.cells #[.string y1, .slice ya yn yc] 55)) W → W.cell? ⟨wr.heap.size, 0, none⟩ = some (.string y1) ∧ W.cell? ⟨wr.heap.size, 1, none⟩ = some (.slice ya yn yc)) := fun W hb => by
            have hs : wr.heap.size < (wr.alloc (.cells #[.string y1, .slice ya yn yc] 55)).heap.size := by simp
            exact ⟨(hb.cell (p := ⟨wr.heap.size, 0, none⟩) hs).trans (by simp), (hb.cell (p := ⟨wr.heap.size, 1, none⟩) hs).trans (by simp)⟩
          clear HS HKE hq
          go_upto_region 9 with (go_at_call 81; refine HC.out.mono ?_; rintro e w4 ⟨rfl, hb4⟩)
          have hO4 := own_below HOA.out hb4
          have hB4 := grownBy_more HA1.out hb4
          obtain ⟨z0, z1⟩ := HBX.out w4 hb4
          have hsl := spP_get L i (by omega)
          have xi := (hO4.cellAt (i * 2) (by omega)).trans hsl.1
          have xj := (hO4.cellAt (i * 2 + 1) (by omega)).trans hsl.2
          have fi := hO4.frozenAt (i * 2)
          have fj := hO4.frozenAt (i * 2 + 1)
          have HOS : Hid (((w4.setCell ⟨g, i * 2, none⟩ (.string y1)).setCell ⟨g, i * 2 + 1, none⟩ (.slice ya yn yc)).ownsRow N 55 2 (.slice (some ⟨g, 0, none⟩) n cap) n (cellsX (spP (L.set i ⟨y1, ya, yn, yc, y3⟩)))) := by
            rw [← spP_set L i ⟨y1, ya, yn, yc, y3⟩ (by omega)]
            exact ((hO4.stored (i * 2) (.string y1)).1.stored (i * 2 + 1) (.slice ya yn yc)).1
          have HBS : Hid (w.grownBy ((w4.setCell ⟨g, i * 2, none⟩ (.string y1)).setCell ⟨g, i * 2 + 1, none⟩ (.slice ya yn yc)) (some g)) := grownBy_trans hB4 (grownBy_trans (set_grownBy _ _ _ _) (set_grownBy _ _ _ _))
          clear hO4 HOA HC HA1 hB4 HBX hsl x0 x1
          generalize L.getD i sp0 = l1 at *
          obtain ⟨q1, q2, q3, q4, q5⟩ := l1
          simp only at xi xj
          go_wp2_with fail
          exact ⟨⟨i + 1, j + 1, L.set i ⟨y1, ya, yn, yc, y3⟩, by go_num, by go_num, by omega, by omega, HS', HOS, HBS⟩, by simp [intOf]; omega⟩
      · obtain rfl : j = n := by omega
        obtain ⟨cur, hg, hcl, hct, hNg, -, hcm, -⟩ := own_whole hO.out
        have hsz : (Builtin.zeroCells (Value.cells (.agg #[.string ⟨#[]⟩, .slice none 0 0])) (j - i)).toList.length = (j - i) * 2 := by
          rw [Array.length_toList, size_zeroCells]
          rfl
        have hz1 := zero2_one (j - i)
        generalize hzs : (Builtin.zeroCells (Value.cells (.agg #[.string ⟨#[]⟩, .slice none 0 0])) (j - i)).toList = zs at *
        obtain ⟨w9, hw9⟩ : ∃ w9, w9 = wr.setRow g (splice cur (i * 2) zs).toArray := ⟨_, rfl⟩
        have hcle : ∀ ty, (Builtin.clear_ #[22] ty #[.slice (some ⟨g, i * 2, none⟩) (j - i) (cap - i)]).run Tryz.prog wr = .ok (.tuple #[]) w9 := fun ty => by
          rw [hw9]
          exact run_clear_row wr 22 55 ty (.agg #[.string ⟨#[]⟩, .slice none 0 0]) Tryz.underlying22 Tryz.zeroValue55 g (i * 2) (j - i) (cap - i) (by omega) cur 55 hg zs hzs hz1 (by rw [hsz, hcl]; omega)
        have hTk := hK.out.2.2.2.1
        rw [show l.take j = l by rw [← HN.out, List.take_length]] at hTk
        have hlen : (l.filter fun x => !p x).length = i := by rw [← hTk, List.length_take]; omega
        have HOF : Hid (w9.ownsRow N 55 2 (.slice (some ⟨g, 0, none⟩) i cap) i (cellsX (spP (l.filter fun x => !p x)))) := by
          refine whole_own (cur := splice cur (i * 2) zs) (by rw [hw9]; exact setRow_heap wr g _ _ _ _ hg) (by rw [length_splice _ _ _ (by rw [hsz, hcl]; omega)]; exact hcl) ?_ hNg (by omega) hcm (by rw [cellsX_length, spP_len, hlen])
          rw [take_splice _ _ _ _ (Nat.le_refl _) (by rw [hcl]; omega), ← hTk, show spP (L.take i) = (spP L).take i by simp [spP, List.map_take], cellsX_take, ← hct, List.take_take, Nat.min_eq_left (by omega)]
        have HBF : Hid (w.grownBy w9 (some g)) := by
          show w.grownBy w9 (some g)
          rw [hw9]
          exact grownBy_trans hB.out (setRow_grownBy _)
        have HLE : Hid ((l.filter fun x => !p x).length = i) := hlen
        have hci : ¬ (cap = i) := by omega
        have hic : (i : Int) ≤ (cap : Int) := by omega
        clear hTk hlen hO hK hB hg hcl hct hNg hcm hw9 hzs hz1 hsz
        go_wp2_with fail
        go_ret
        rw [HLE.out]
        exact ⟨rfl, HOF.out, HBF.out⟩
  · have HFL : Hid ((l.filter fun x => !p x) = l) := by
      unfold Hid
      rw [List.filter_eq_self]
      intro x hx
      obtain ⟨j, hj, rfl⟩ := List.getElem_of_mem hx
      have := hno j hj
      rw [show l.getD j sp0 = l[j] by simp [hj]] at this
      rw [this]
      rfl
    have HO2 : Hid (w2.ownsRow N 55 2 (.slice (some ⟨g, 0, none⟩) n cap) n (cellsX (spP l))) := own_below HO.out hb2
    have HB2 : Hid (w.grownBy w2 (some g)) := below_grownBy hb2 _
    clear hno HI HO hb2
    go_wp2_with fail
    go_ret
    rw [HFL.out, HN.out]
    exact ⟨rfl, HO2.out, HB2.out⟩
end Go.Proofs.YtihohcmocejijaaGreat.Bk
namespace Go.Proofs.YtihohcmocejijaaGreat.Bk
open Go.ChangeShapes Go.WideShapes Go.ChangeAt Go.RowKit
set_option maxRecDepth 60000 in
theorem copiedS_any (a : Option Addr) (len cap : Nat) (L : List Sm) (w : World) (h : SmsAt w a len cap L) (hm : len ≤ 1000) :
    Calls Tryz.prog 44 #[.slice a len cap] w fun e w' => Below w.heap.size w w' ∧ ∃ a' c', e = .returned (.slice a' L.length c') ∧ w'.ownsRow w.heap.size 27 2 (.slice a' L.length c') L.length (cellsS L) := by
  obtain ⟨i0, hi, hz0, hz1, hz2⟩ := info_parts infoS
  have H0 := own_nothing w w.heap.size 27 2
  have HL := Hid.mk9 h
  have HM := Hid.mk9 hm
  have hl : L.length = len := h.1
  clear h hm
  by_cases h0 : len = 0
  · subst h0
    obtain rfl : L = [] := List.length_eq_zero_iff.1 hl
    go_enter Tryz.func44, Tryz.ntmps44
    go_wp2_with (at_builtin; refine wpList_append_zero rfl _ _ 53 rfl w.heap.size 27 i0 2 Tryz.underlying53 hi _ _ _ rfl H0 _ _ rfl ?_)
    go_ret
    exact ⟨Below.refl _ _, none, 0, rfl, H0⟩
  · obtain ⟨b, off, rfl, -, -⟩ := HL.out.some (by omega)
    have HCC := Hid.mk9 (sms_cells HL.out)
    go_enter Tryz.func44, Tryz.ntmps44
    go_wp2_with (at_builtin; refine wpList_append_own _ rfl _ _ 53 rfl w.heap.size 27 i0 (.agg #[.int .i64 0, .int .i64 0]) 2 16 Tryz.underlying53 hi hz0 hz1 hz2 rfl (by decide) _ _ _ rfl H0 ⟨b, off, none⟩ len cap (cellsS L) rfl (by rw [cellsS_length, hl]) HCC.out (cellsS_one L) (by have := HM.out; unfold maxLen; omega) (by have := HM.out; omega) (Nat.le_refl _) ?_)
    intro v7 w7 hown7 hg7 hiff
    have hO : w7.ownsRow w.heap.size 27 2 v7 L.length (cellsS L) := by rw [hl]; simpa using hown7
    obtain ⟨g7, c7, rfl, -⟩ := own_some hO (by omega)
    have HO := Hid.mk9 hO
    have hb7 : Below w.heap.size w w7 := ⟨hg7.os, hg7.tape, hg7.output, hg7.size, fun k hk => hg7.block k hk (by simp [Value.ownBlock])⟩
    clear hown7 hg7 hiff H0 hO
    go_wp2_with fail
    go_ret
    exact ⟨hb7, _, _, rfl, HO.out⟩
theorem dns_cells {w : World} {b off len : Nat} {ds : List Dn} (hl : ds.length = len) (h : ∀ i, i < len → DnCells w b (off + i * 5) (ds.getD i dn0)) : ∀ j u, (cellsD ds)[j]? = some u → w.cell? ((⟨b, off, none⟩ : Addr).add j) = some u := by
  intro j u hj
  have hlt := (List.getElem?_eq_some_iff.1 hj).1
  rw [cellsD_length] at hlt
  have e := cellsD_at ds (j / 5) (by omega) (j % 5) (by omega)
  rw [show j / 5 * 5 + j % 5 = j from by omega, hj] at e
  obtain ⟨h0, h1, h2, h3, h4⟩ := h (j / 5) (by omega)
  rw [addr_add]
  generalize ds.getD (j / 5) dn0 = d at *
  have h5 : j % 5 = 0 ∨ j % 5 = 1 ∨ j % 5 = 2 ∨ j % 5 = 3 ∨ j % 5 = 4 := by omega
  rcases h5 with q | q | q | q | q
  · rw [q] at e; rw [show off + j = off + j / 5 * 5 from by omega, h0]; exact e.symm
  · rw [q] at e; rw [show off + j = off + j / 5 * 5 + 1 from by omega, h1]; exact e.symm
  · rw [q] at e; rw [show off + j = off + j / 5 * 5 + 2 from by omega, h2]; exact e.symm
  · rw [q] at e; rw [show off + j = off + j / 5 * 5 + 3 from by omega, h3]; exact e.symm
  · rw [q] at e; rw [show off + j = off + j / 5 * 5 + 4 from by omega, h4]; exact e.symm
set_option maxRecDepth 60000 in
theorem copiedD_any (a : Option Addr) (len cap : Nat) (L : List Dn) (w : World) (h : DnsAt w a len cap L) (hm : len ≤ 1000) :
    Calls Tryz.prog 45 #[.slice a len cap] w fun e w' => Below w.heap.size w w' ∧ ∃ a' c', e = .returned (.slice a' L.length c') ∧ w'.ownsRow w.heap.size 51 5 (.slice a' L.length c') L.length (cellsD L) := by
  obtain ⟨i0, hi, hz0, hz1, hz2⟩ := info_parts infoDn9
  have H0 := own_nothing w w.heap.size 51 5
  have HL := Hid.mk9 h
  have HM := Hid.mk9 hm
  have hl : L.length = len := h.1
  clear h hm
  by_cases h0 : len = 0
  · subst h0
    obtain rfl : L = [] := List.length_eq_zero_iff.1 hl
    go_enter Tryz.func45, Tryz.ntmps45
    go_wp2_with (at_builtin; refine wpList_append_zero rfl _ _ 23 rfl w.heap.size 51 i0 5 Tryz.underlying23 hi _ _ _ rfl H0 _ _ rfl ?_)
    go_ret
    exact ⟨Below.refl _ _, none, 0, rfl, H0⟩
  · obtain ⟨b, off, rfl, -, hc9⟩ := HL.out.some (by omega)
    have HCC := Hid.mk9 (dns_cells hl hc9)
    clear hc9
    go_enter Tryz.func45, Tryz.ntmps45
    go_wp2_with (at_builtin; refine wpList_append_own _ rfl _ _ 23 rfl w.heap.size 51 i0 (.agg #[.int .i64 0, .int .i64 0, .int .i64 0, .bool false, .int .i64 0]) 5 40 Tryz.underlying23 hi hz0 hz1 hz2 rfl (by decide) _ _ _ rfl H0 ⟨b, off, none⟩ len cap (cellsD L) rfl (by rw [cellsD_length, hl]) HCC.out (cellsD_one L) (by have := HM.out; unfold maxLen; omega) (by have := HM.out; omega) (Nat.le_refl _) ?_)
    intro v7 w7 hown7 hg7 hiff
    have hO : w7.ownsRow w.heap.size 51 5 v7 L.length (cellsD L) := by rw [hl]; simpa using hown7
    obtain ⟨g7, c7, rfl, -⟩ := own_some hO (by omega)
    have HO := Hid.mk9 hO
    have hb7 : Below w.heap.size w w7 := ⟨hg7.os, hg7.tape, hg7.output, hg7.size, fun k hk => hg7.block k hk (by simp [Value.ownBlock])⟩
    clear hown7 hg7 hiff H0 hO
    go_wp2_with fail
    go_ret
    exact ⟨hb7, _, _, rfl, HO.out⟩
def RawX (w : World) (a : Option Addr) (len cap : Nat) (L : List LX) : Prop := L.length = len ∧ len ≤ cap ∧ cap ≤ maxLen ∧ (len = 0 ∨ ∃ b off, a = some ⟨b, off, none⟩ ∧ ∀ j u, (cellsX L)[j]? = some u → w.cell? ((⟨b, off, none⟩ : Addr).add j) = some u) ∧ ∀ u ∈ cellsX L, u.oneCell' = true
set_option maxRecDepth 60000 in
theorem copiedX_any (a : Option Addr) (len cap : Nat) (L : List LX) (w : World) (h : RawX w a len cap L) (hm : len ≤ 1000) :
    Calls Tryz.prog 43 #[.slice a len cap] w fun e w' => Below w.heap.size w w' ∧ ∃ a' c', e = .returned (.slice a' L.length c') ∧ w'.ownsRow w.heap.size 55 2 (.slice a' L.length c') L.length (cellsX L) := by
  obtain ⟨i0, hi, hz0, hz1, hz2⟩ := info_parts infoLn9
  have H0 := own_nothing w w.heap.size 55 2
  have HL := Hid.mk9 h
  have HM := Hid.mk9 hm
  have hl : L.length = len := h.1
  have H1 := Hid.mk9 h.2.2.2.2
  clear h hm
  by_cases h0 : len = 0
  · subst h0
    obtain rfl : L = [] := List.length_eq_zero_iff.1 hl
    go_enter Tryz.func43, Tryz.ntmps43
    go_wp2_with (at_builtin; refine wpList_append_zero rfl _ _ 22 rfl w.heap.size 55 i0 2 Tryz.underlying22 hi _ _ _ rfl H0 _ _ rfl ?_)
    go_ret
    exact ⟨Below.refl _ _, none, 0, rfl, H0⟩
  · obtain ⟨b, off, rfl, hc9⟩ := (show len = 0 ∨ _ from HL.out.2.2.2.1).resolve_left h0
    have HCC := Hid.mk9 hc9
    clear hc9
    go_enter Tryz.func43, Tryz.ntmps43
    go_wp2_with (at_builtin; refine wpList_append_own _ rfl _ _ 22 rfl w.heap.size 55 i0 (.agg #[.string ⟨#[]⟩, .slice none 0 0]) 2 40 Tryz.underlying22 hi hz0 hz1 hz2 rfl (by decide) _ _ _ rfl H0 ⟨b, off, none⟩ len cap (cellsX L) rfl (by rw [cellsX_length, hl]) HCC.out (H1.out) (by have := HM.out; unfold maxLen; omega) (by have := HM.out; omega) (Nat.le_refl _) ?_)
    intro v7 w7 hown7 hg7 hiff
    have hO : w7.ownsRow w.heap.size 55 2 v7 L.length (cellsX L) := by rw [hl]; simpa using hown7
    obtain ⟨g7, c7, rfl, -⟩ := own_some hO (by omega)
    have HO := Hid.mk9 hO
    have hb7 : Below w.heap.size w w7 := ⟨hg7.os, hg7.tape, hg7.output, hg7.size, fun k hk => hg7.block k hk (by simp [Value.ownBlock])⟩
    clear hown7 hg7 hiff H0 hO
    go_wp2_with fail
    go_ret
    exact ⟨hb7, _, _, rfl, HO.out⟩
end Go.Proofs.YtihohcmocejijaaGreat.Bk
