/-
  Plain facts, the second part: free codes, needed words, sorted lists, linear codes, spans, leaders, bases, products, orders: no Go, no program. Written by an AI agent.
-/
import Derived.Test.YtamebfbddoeflaaPkMath
namespace Go.Proofs.Ytamebfbddoeflaa
set_option linter.unusedVariables false
set_option linter.unusedSimpArgs false
namespace Cv

/- Free codes, as plain lists. -/
/-- the first k numbers are places below n, ascending -/
def plTo (n : Int) (P : List Int) : Nat → Bool
  | 0 => true
  | k + 1 => plTo n P k && decide (0 ≤ gi P k) && decide (gi P k < n) && (decide (k = 0) || decide (gi P (k - 1) < gi P k))
/-- all numbers of a list are in 0 .. n - 1 -/
def insTo (n : Int) (P : List Int) : Bool := decide (∀ j, j < P.length → 0 ≤ gi P j ∧ gi P j < n)
def eFree (S P : List Int) : Int := if isSp S = true then (if plTo S.length P P.length = true then 0 else 2) else 1
/-- the digits of a word at the first k places are 0 -/
def frTo (S P : List Int) (u : Int) : Nat → Bool
  | 0 => true
  | k + 1 => frTo S P u k && decide (dig S u (gi P k).toNat = 0)
def freeL (S P : List Int) (n : Nat) : List Int := selL (fun u => frTo S P u P.length) n
def vFree (S P : List Int) : List Int := if eFree S P = 0 then freeL S P (nW S).toNat else []
/- Plain facts on needed words and lean codes. -/
/-- whether one of the first k words of B is counted just once in T -/
def oneTo (T B : List Int) : Nat → Bool
  | 0 => false
  | k + 1 => oneTo T B k || decide (gi T (gi B k).toNat = 1)
/-- whether x is needed where T tells how often each word is covered -/
def needB (T S : List Int) (x r : Int) : Bool := oneTo T (ballW S x r) (ballW S x r).length
def needTo (S C : List Int) (r : Int) : Nat → List Int
  | 0 => []
  | k + 1 => if needB (timesL S C r) S (gi C k) r = true then needTo S C r k ++ [gi C k] else needTo S C r k
def vNeed (S C : List Int) (r : Int) : List Int := if eCov S C r = 0 then needTo S C r C.length else []
/-- a list of counts with those of a list of words taken off -/
def decL (T B : List Int) : List Int := (List.range T.length).map fun (u : Nat) => gi T u - cntIn B u B.length
/-- how often each word is covered when the words ahead that are not needed are left out -/
def lnT (S C : List Int) (r : Int) : Nat → List Int
  | 0 => timesL S C r
  | k + 1 => if needB (lnT S C r k) S (gi C k) r = true then lnT S C r k else decL (lnT S C r k) (ballW S (gi C k) r)
def lnTo (S C : List Int) (r : Int) : Nat → List Int
  | 0 => []
  | k + 1 => if needB (lnT S C r k) S (gi C k) r = true then lnTo S C r k ++ [gi C k] else lnTo S C r k
def vLean (S C : List Int) (r : Int) : List Int := if eCov S C r = 0 then lnTo S C r C.length else []
/- Plain facts on a sorted list without its repeated numbers. -/
/-- the first k numbers of a list, each one that is its neighbour's left out -/
def cmpT (L : List Int) : Nat → List Int
  | 0 => []
  | k + 1 => if k = 0 ∨ gi L k ≠ gi L (k - 1) then cmpT L k ++ [gi L k] else cmpT L k
/-- the state of the second loop: i numbers stand, m are read -/
def CmpI (L R : List Int) (i m : Nat) : Prop := R.length = L.length ∧ i < m ∧ R.take i = cmpT L m ∧ ∀ t, m - 1 ≤ t → gi R t = gi L t
/- Plain facts on the place of the sum. -/
/-- the sum of the first k numbers -/
def sumTo (T : List Int) : Nat → Int
  | 0 => 0
  | k + 1 => sumTo T k + gi T k
/-- the digits with the rest of their sum behind -/
def addD (q : Int) (T : List Int) : List Int := T ++ [sumTo T T.length % q]
/-- the code with the rest of the sum of all digits behind -/
def addC (S C : List Int) (q : Int) : List Int := C.map fun c => c * q + sumTo (digs S c) S.length % q
/-- the code of AddSumPlace, and its results -/
def eAdd (S C : List Int) (q : Int) : Int := if eCode S C ≠ 0 then eCode S C else if q < 2 ∨ 4 < q then 2 else if isSp (S ++ [q]) = true then 0 else 3
def vAddS (S C : List Int) (q : Int) : List Int := if eAdd S C q = 0 then S ++ [q] else []
def vAddC (S C : List Int) (q : Int) : List Int := if eAdd S C q = 0 then addC S C q else []
/- Plain facts on plain spaces, spans and linear codes. -/
/-- the first k sizes are the first one, and none is greater than 3 -/
def plUp (S : List Int) (k : Nat) : Bool := decide (∀ i, i < k → gi S i = gi S 0 ∧ gi S i ≤ 3)
def isPl (S : List Int) : Bool := plUp S S.length
theorem isPl_iff (S : List Int) : isPl S = true ↔ ∀ i, i < S.length → gi S i = gi S 0 ∧ gi S i ≤ 3 := by
  unfold isPl plUp; simp
theorem isPl_not {S : List Int} {k : Nat} (hk : k < S.length) (h : ¬ (gi S k = gi S 0 ∧ gi S k ≤ 3)) : isPl S = false := by
  rw [← Bool.not_eq_true, isPl_iff]; exact fun g => h (g k hk)
/-- what the program asks -/
theorem isPl_any {S : List Int} (h1 : 1 ≤ S.length) : isPl S = (decide (gi S 0 ≤ 3) && !S.any fun x => x != gi S 0) := by
  rw [Bool.eq_iff_iff, isPl_iff, Bool.and_eq_true, decide_eq_true_eq, Bool.not_eq_true', ← Bool.not_eq_true, List.any_eq_true]
  constructor
  · intro h
    refine ⟨(h 0 (by omega)).2, ?_⟩
    rintro ⟨x, hx, he⟩
    obtain ⟨j, hj, e⟩ := mem_gi hx
    have := (h j hj).1
    rw [e] at this
    simp [this] at he
  · rintro ⟨h1, h2⟩ i hi
    have : gi S i = gi S 0 := by
      apply Classical.byContradiction
      intro g
      exact h2 ⟨gi S i, gi_mem hi, by simpa using g⟩
    exact ⟨this, by omega⟩

/-- a plain space -/
structure Pl (S : List Int) : Prop where
  sp : Sp S
  same : ∀ i, i < S.length → gi S i = gi S 0
  q : gi S 0 = 2 ∨ gi S 0 = 3
theorem pl_of {S : List Int} (h : Sp S) (hp : isPl S = true) : Pl S := by
  have g := (isPl_iff S).1 hp
  have h0 := h.bd 0 h.lo
  have g0 := g 0 h.lo
  exact ⟨h, fun i hi => (g i hi).1, by omega⟩

/-- a word -/
def Wd (S : List Int) (u : Int) : Prop := 0 ≤ u ∧ u < nW S
theorem digs_word {S D : List Int} (hS : Sp S) (hl : D.length = S.length) (hD : ∀ i, i < S.length → 0 ≤ gi D i ∧ gi D i < gi S i) : digs S (wordTo S D S.length) = D := by
  obtain ⟨a, b⟩ := wordTo_bd S D S.length hS.bd hD
  have h1 := wordTo_digs S _ hS a b
  refine ext_gi (by rw [digs_length, hl]) fun i hi => ?_
  rw [digs_length] at hi
  exact wordTo_inj S.length hS.bd (fun i hi => by rw [gi_digs _ _ _ hi]; exact dig_bd S _ hS.bd i hi) hD h1 i hi
theorem sumD_bd {S : List Int} (hS : Sp S) (A B : List Int) : ∀ i, i < S.length → 0 ≤ gi (sumD S A B) i ∧ gi (sumD S A B) i < gi S i := by
  intro i hi
  have s := hS.bd i hi
  rw [gi_sumD _ _ _ _ hi]
  exact ⟨Int.emod_nonneg _ (by omega), Int.emod_lt_of_pos _ (by omega)⟩
theorem wd_sum {S : List Int} (hS : Sp S) (u x : Int) : Wd S (sumW S u x) := wordTo_bd S _ S.length hS.bd (sumD_bd hS _ _)
theorem dig_sum {S : List Int} (hS : Sp S) (u x : Int) (i : Nat) (hi : i < S.length) : dig S (sumW S u x) i = (dig S u i + dig S x i) % gi S i := by
  have h := digs_word hS (sumD_length S (digs S u) (digs S x)) (sumD_bd hS _ _)
  rw [← gi_digs S _ i hi]
  show gi (digs S (sumW S u x)) i = _
  unfold sumW
  rw [h, gi_sumD _ _ _ _ hi, gi_digs S u i hi, gi_digs S x i hi]
theorem word_ext {S : List Int} (hS : Sp S) {u x : Int} (hu : Wd S u) (hx : Wd S x) (h : ∀ i, i < S.length → dig S u i = dig S x i) : u = x := by
  have : digs S u = digs S x := ext_gi (by rw [digs_length, digs_length]) fun i hi => by rw [digs_length] at hi; rw [gi_digs S u i hi, gi_digs S x i hi, h i hi]
  rw [← wordTo_digs S u hS hu.1 hu.2, ← wordTo_digs S x hS hx.1 hx.2, this]
theorem quoTop_0 (S : List Int) (k : Nat) : quoTop S 0 k = 0 := by
  induction k with
  | zero => rfl
  | succ k ih => rw [quoTop, ih]; exact Int.zero_ediv _
theorem dig_0 (S : List Int) (i : Nat) : dig S 0 i = 0 := by unfold dig; rw [quoTop_0]; exact Int.zero_emod _
theorem wd_0 {S : List Int} (hS : Sp S) : Wd S 0 := ⟨by omega, by have := nW_bd hS; omega⟩

theorem sum_comm {S : List Int} (hS : Sp S) (u x : Int) : sumW S u x = sumW S x u :=
  word_ext hS (wd_sum hS _ _) (wd_sum hS _ _) fun i hi => by rw [dig_sum hS _ _ i hi, dig_sum hS _ _ i hi, Int.add_comm]
theorem sum_assoc {S : List Int} (hS : Sp S) (u x y : Int) : sumW S (sumW S u x) y = sumW S u (sumW S x y) :=
  word_ext hS (wd_sum hS _ _) (wd_sum hS _ _) fun i hi => by
    rw [dig_sum hS _ _ i hi, dig_sum hS _ _ i hi, dig_sum hS _ _ i hi, dig_sum hS _ _ i hi, Int.emod_add_emod, Int.add_emod_emod, Int.add_assoc]
theorem sum_0 {S : List Int} (hS : Sp S) {u : Int} (hu : Wd S u) : sumW S u 0 = u :=
  word_ext hS (wd_sum hS _ _) hu fun i hi => by
    have := dig_bd S u hS.bd i hi
    rw [dig_sum hS _ _ i hi, dig_0, Int.add_zero]; exact Int.emod_eq_of_lt this.1 this.2
theorem sum_0l {S : List Int} (hS : Sp S) {u : Int} (hu : Wd S u) : sumW S 0 u = u := by rw [sum_comm hS, sum_0 hS hu]

/-- the word twice -/
def two (S : List Int) (w : Int) : Int := sumW S w w
theorem two_2 {S : List Int} (hP : Pl S) (h2 : gi S 0 = 2) (w : Int) : two S w = 0 :=
  word_ext hP.sp (wd_sum hP.sp _ _) (wd_0 hP.sp) fun i hi => by
    have := dig_bd S w hP.sp.bd i hi
    have e := hP.same i hi
    rw [two, dig_sum hP.sp _ _ i hi, dig_0, e, h2]; omega
theorem three_3 {S : List Int} (hP : Pl S) (h3 : gi S 0 = 3) (w : Int) : sumW S (two S w) w = 0 :=
  word_ext hP.sp (wd_sum hP.sp _ _) (wd_0 hP.sp) fun i hi => by
    have := dig_bd S w hP.sp.bd i hi
    have e := hP.same i hi
    rw [dig_sum hP.sp _ _ i hi, two, dig_sum hP.sp _ _ i hi, dig_0, e, h3]; omega
theorem two_ne {S : List Int} (hP : Pl S) (h3 : gi S 0 = 3) {w : Int} (hw : Wd S w) (h : w ≠ 0) : two S w ≠ 0 := fun g => h (by
  have h1 := three_3 hP h3 w
  rw [g, sum_0l hP.sp hw] at h1; exact h1)

/-- a list of words that has 0 and all sums of two of its words, each once -/
structure Gp (S L : List Int) : Prop where
  wd : ∀ u, u ∈ L → Wd S u
  zero : 0 ∈ L
  sum : ∀ u x, u ∈ L → x ∈ L → sumW S u x ∈ L
  nd : L.Nodup
def shL (S L : List Int) (x : Int) : List Int := L.map fun u => sumW S u x
/-- a list of words, and their sums with w and, for the size 3, with w twice -/
def spW (S L : List Int) (w : Int) : List Int := if gi S 0 = 3 then L ++ shL S L w ++ shL S L (two S w) else L ++ shL S L w
/-- the words made of the first k words of a list -/
def spTo (S W : List Int) : Nat → List Int
  | 0 => [0]
  | k + 1 => if gi W k ∈ spTo S W k then spTo S W k else spW S (spTo S W k) (gi W k)
theorem nd_len : ∀ {L M : List Int}, L.Nodup → (∀ x, x ∈ L → x ∈ M) → L.length ≤ M.length := by
  intro L
  induction L with
  | nil => intro M _ _; simp
  | cons a L ih =>
    intro M hn hs
    have ha : a ∈ M := hs a (by simp)
    rw [List.nodup_cons] at hn
    have := ih (M := M.erase a) hn.2 fun x hx => (List.mem_erase_of_ne (fun (e : x = a) => hn.1 (by rw [← e]; exact hx))).2 (hs x (by simp [hx]))
    rw [List.length_erase_of_mem ha] at this
    have hp : 0 < M.length := List.length_pos_of_mem ha
    simp; omega
theorem nd_words {S L : List Int} (hS : Sp S) (hn : L.Nodup) (hw : ∀ u, u ∈ L → Wd S u) : L.length ≤ 1024 := by
  have h := nW_bd hS
  have := nd_len (M := (List.range (nW S).toNat).map fun (i : Nat) => (i : Int)) hn fun x hx => by
    have g := hw x hx
    unfold Wd at g
    exact List.mem_map.2 ⟨x.toNat, by rw [List.mem_range]; omega, by omega⟩
  rw [List.length_map, List.length_range] at this
  omega
/- Plain facts on what says whether a code is linear, on spans and on counts of weights: the functions' answers. -/
def vIsPl (S : List Int) : Bool := if isSp S = true then isPl S else false

/-- the code of a plain space and at most 20 words -/
def eSpan (S W : List Int) : Int := if eWords S W = 0 then (if 20 < W.length then 2 else if isPl S = true then 0 else 5) else eWords S W
def vSpan (S W : List Int) : List Int := if eSpan S W = 0 then sorted (spTo S W W.length) else []
/-- whether a code is linear, as the program asks -/
def linB (S C : List Int) : Bool := isPl S && decide ((spTo S C C.length).length = C.length)
/-- and as the model asks -/
def linM (S C : List Int) : Bool := isPl S && decide (1 ≤ C.length ∧ gi C 0 = 0 ∧ ∀ i, i < C.length → ∀ k, k < i + 1 → sumW S (gi C i) (gi C k) ∈ C)
theorem code_nd {S C : List Int} (h : eCode S C = 0) : C.Nodup := (asc_code h).imp fun h e => by omega
def vLin (S C : List Int) : Bool := if eCode S C = 0 then linB S C else false

/-- for each weight the number of the first k words of a list that have it -/
def wcTo (S C : List Int) (k : Nat) : List Int := (List.range (S.length + 1)).map fun (m : Nat) => cnt (fun i => decide (dist S 0 (gi C i) = (m : Int))) k
def vWc (S C : List Int) : List Int := if eCode S C = 0 then wcTo S C C.length else []
/- Plain facts on how a span is made wider. -/
/-- a word added to itself k times -/
def mulW (S : List Int) (x : Int) : Nat → Int
  | 0 => x
  | k + 1 => sumW S (mulW S x k) x
/-- a list and behind it its sums with the first k of these -/
def widL (S L : List Int) (x : Int) : Nat → List Int
  | 0 => L
  | k + 1 => widL S L x k ++ shL S L (mulW S x k)
def widI (S L : List Int) (x : Int) (k i : Nat) : List Int := widL S L x k ++ (L.take i).map fun u => sumW S u (mulW S x k)
def qN (S : List Int) : Nat := (gi S 0).toNat - 1
theorem qN_bd {S : List Int} (hP : Pl S) : qN S = 1 ∨ qN S = 2 := by unfold qN; rcases hP.q with h | h <;> rw [h] <;> simp
theorem mul_wd {S : List Int} (hS : Sp S) {x : Int} (hx : Wd S x) (k : Nat) : Wd S (mulW S x k) := by
  cases k with
  | zero => exact hx
  | succ k => exact wd_sum hS _ _
theorem mul_end {S : List Int} (hP : Pl S) (x : Int) : mulW S x (qN S) = 0 := by
  rcases hP.q with h | h
  · have e : qN S = 1 := by unfold qN; rw [h]; rfl
    rw [e]; exact two_2 hP h x
  · have e : qN S = 2 := by unfold qN; rw [h]; rfl
    rw [e]; exact three_3 hP h x
theorem mul_ne {S : List Int} (hP : Pl S) {x : Int} (hx : Wd S x) (h0 : x ≠ 0) (k : Nat) (hk : k < qN S) : mulW S x k ≠ 0 := by
  rcases hP.q with h | h
  · have e : qN S = 1 := by unfold qN; rw [h]; rfl
    have : k = 0 := by omega
    subst this; exact h0
  · have e : qN S = 2 := by unfold qN; rw [h]; rfl
    have : k = 0 ∨ k = 1 := by omega
    rcases this with rfl | rfl
    · exact h0
    · exact two_ne hP h hx h0
/-- the error of a plain space, at most 20 words of it and another word -/
def eSyn (S G : List Int) (x : Int) : Int := if orI (eWords S G) (eWords S [x]) = 0 then (if 20 < G.length then 2 else if isPl S = true then 0 else 5) else orI (eWords S G) (eWords S [x])
theorem orI_zero {a b : Int} (h : orI a b = 0) : a = 0 ∧ b = 0 := by
  unfold orI at h
  split at h
  · rename_i g; exact ⟨g, h⟩
  · rename_i g; exact absurd h g
/- Plain facts on the model's spans. -/
/-- the model's multiples, and its next list -/
def ownW (S : List Int) (x : Int) : Nat → Int
  | 0 => 0
  | k + 1 => mulW S x k
def nxL (S M : List Int) (x : Int) : Nat → List Int
  | 0 => M
  | k + 1 => nxL S M x k ++ putTo [] (fun i => sumW S (gi M i) (ownW S x (k + 1))) M.length
/-- the model's span after the first k words -/
def moL (S G : List Int) (k : Nat) : List Int := selL (inL (spTo S G k)) (nW S).toNat
/- Plain facts on a place taken out. -/
/-- a list without its element k -/
def dropI (k : Nat) (T : List Int) : List Int := T.take k ++ T.drop (k + 1)
/-- the word without a place -/
def outW (S : List Int) (k : Nat) (c : Int) : Int := wordTo (dropI k S) (dropI k (digs S c)) (dropI k S).length
/-- the words without a place, of the first j those with the digit d there, or all for a number less than 0 -/
def outTo (S C : List Int) (k : Nat) (d : Int) : Nat → List Int
  | 0 => []
  | j + 1 => if d < 0 ∨ dig S (gi C j) k = d then putL (outTo S C k d j) (outW S k (gi C j)) else outTo S C k d j
/-- the words with a digit at a place -/
def keepL (S C : List Int) (k : Nat) (d : Int) : List Int := C.filter fun x => !(dig S x k != d)
/-- the error of a space, a code and a place -/
def ePlc (S C : List Int) (i : Int) : Int := if eCode S C = 0 then (if 0 ≤ i ∧ i < S.length then 0 else 2) else eCode S C
def eTk (S C : List Int) (i : Int) : Int := if ePlc S C i = 0 then (if S.length = 1 then 5 else 0) else ePlc S C i
def vTkS (S C : List Int) (i : Int) : List Int := if eTk S C i = 0 then dropI i.toNat S else []
def vTkC (S C : List Int) (i : Int) : List Int := if eTk S C i = 0 then outTo S C i.toNat (-1) C.length else []
/-- and with the digit that is kept -/
def eKs (S C : List Int) (i d : Int) : Int := if ePlc S C i = 0 then (if 0 ≤ d ∧ d < gi S i.toNat then (if S.length = 1 then 5 else 0) else 2) else ePlc S C i
def vKsS (S C : List Int) (i d : Int) : List Int := if eKs S C i d = 0 then dropI i.toNat S else []
def vKsC (S C : List Int) (i d : Int) : List Int := if eKs S C i d = 0 then outTo S C i.toNat d C.length else []
/- Plain facts on the sign that is kept. -/
/- Plain facts on leaders and on nearest words of linear codes. -/
/-- lighter, or as light and less -/
def lgt (S : List Int) (y z : Int) : Bool := decide (dist S 0 y < dist S 0 z) || decide (dist S 0 y = dist S 0 z ∧ y < z)
/-- the leader among the first k + 1 of a list -/
def ldrTo (S L : List Int) : Nat → Int
  | 0 => gi L 0
  | k + 1 => if lgt S (gi L (k + 1)) (ldrTo S L k) = true then gi L (k + 1) else ldrTo S L k
/-- a list's leader: lightest, and least of these -/
def isLdr (S L : List Int) (y : Int) : Prop := y ∈ L ∧ ∀ z, z ∈ L → lgt S z y = false
/-- the leader of the class of a word -/
def ldr (S C : List Int) (x : Int) : Int := ldrTo S (shL S C x) ((shL S C x).length - 1)

/-- the nearest word -/
def nrW (S C : List Int) (x : Int) : Int := sumW S x (oppW S (ldr S C x))
/-- the error of a space and a linear code, and of a word ahead -/
def eLin (S C : List Int) : Int := if eCode S C = 0 then (if linB S C = true then 0 else 5) else eCode S C
def eNrW (S C : List Int) (x : Int) : Int := if eCW S C [x] = 0 then (if linB S C = true then 0 else 5) else eCW S C [x]
def vNrW (S C : List Int) (x : Int) : Int := if eNrW S C x = 0 then nrW S C x else 0
/-- three-way comparison -/
def cmpI (a b : Int) : Int := if a < b then -1 else if b < a then 1 else 0
def cmpW (S : List Int) (y z : Int) : Int := orI (cmpI (dist S 0 y) (dist S 0 z)) (cmpI y z)
/-- the leader as the model finds it: after the first k -/
def ldrM (S L : List Int) : Nat → Int
  | 0 => gi L 0
  | k + 1 => if dist S 0 (gi L k) < dist S 0 (ldrM S L k) then gi L k else ldrM S L k
/- Plain facts on the leaders of all classes, and on the greatest weight of one. -/
/-- the words of the classes of the first k words -/
def knTo (S C : List Int) : Nat → List Int
  | 0 => []
  | k + 1 => if (k : Int) ∈ knTo S C k then knTo S C k else knTo S C k ++ shL S C k
/-- their leaders, as they are found -/
def ldsTo (S C : List Int) : Nat → List Int
  | 0 => []
  | k + 1 => if (k : Int) ∈ knTo S C k then ldsTo S C k else ldsTo S C k ++ [ldr S C k]
/-- and as the model puts them together -/
def ldsM (S C : List Int) : Nat → List Int
  | 0 => []
  | k + 1 => if (k : Int) ∈ knTo S C k then ldsM S C k else putL (ldsM S C k) (ldr S C k)
/-- the leaders of a linear code, ascending -/
def vLds (S C : List Int) : List Int := if eLin S C = 0 then ldsM S C (nW S).toNat else []
/-- the greatest weight of the first k words of a list -/
def wmTo (S L : List Int) : Nat → Int
  | 0 => 0
  | k + 1 => if wmTo S L k < dist S 0 (gi L k) then dist S 0 (gi L k) else wmTo S L k
/-- the greatest of the first k + 1 numbers -/
def mxTo (L : List Int) : Nat → Int
  | 0 => gi L 0
  | k + 1 => if mxTo L k < gi L (k + 1) then gi L (k + 1) else mxTo L k
def vRad (S C : List Int) : Int := if eLin S C = 0 then wmTo S (ldsM S C (nW S).toNat) (ldsM S C (nW S).toNat).length else 0
/- Plain facts on the least basis of a linear code: what is left of a word in front of its last k digits, the words of a code that have nothing there. -/
/-- the digit in front of the last k ones -/
def lv (S : List Int) (u : Int) (k : Nat) : Int := quoTop S u k % gi S 0
/-- the words of a list that have nothing in front of their last k digits -/
def subL (S C : List Int) (k : Nat) : List Int := C.filter fun u => decide (quoTop S u k = 0)
/-- the word of the least basis with its first digit in front of the last k ones -/
def basAt (S C : List Int) (k : Nat) : Option Int := C.find? fun u => decide (quoTop S u k = 1)
/-- the least basis, from behind -/
def basUp (S C : List Int) : Nat → List Int
  | 0 => []
  | k + 1 => (basAt S C k).toList ++ basUp S C k
/-- the number of words, by the length of the basis -/
def pwI (q : Int) : Nat → Int
  | 0 => 1
  | k + 1 => pwI q k * q
/-- the least word that is looked for when m digits are left -/
def fstW (S : List Int) (m : Nat) : Int := if m = 0 then 0 else restP S (m - 1)
def vBas (S C : List Int) : List Int := if eLin S C = 0 then basUp S C S.length else []
def vDim (S C : List Int) : Int := if eLin S C = 0 then (basUp S C S.length).length else 0

/- Plain facts on how the model finds the least basis. -/
/-- a word's first digit other than 0 lies at place i -/
def ledB (S : List Int) (u : Int) (i : Nat) : Bool := decide (dig S u i ≠ 0 ∧ ∀ j, j < i → dig S u j = 0)
def frW (S C : List Int) (k i : Nat) : Bool := decide (∃ j, j < k ∧ ledB S (gi C j) i = true)
def frB (S C : List Int) (k : Nat) : List Bool := (List.range S.length).map (frW S C k)
/-- a word that the model takes for place i, by the first k digits -/
def gdTo (S C : List Int) (i : Nat) (u : Int) (k : Nat) : Bool := decide (dig S u i = 1 ∧ ∀ j, j < k → (j < i ∨ frW S C C.length j = true ∧ j ≠ i) → dig S u j = 0)
/-- what the model adds for place i -/
def gdAt (S C : List Int) (i : Nat) : List Int := if frW S C C.length i = true then (C.find? fun u => gdTo S C i u S.length).toList else []
/-- the model's basis after the first i places -/
def basM (S C : List Int) : Nat → List Int
  | 0 => []
  | i + 1 => basM S C i ++ gdAt S C i
/- Plain facts on the products of words, on what is upright to a code, and on bits counted. -/
/-- the sum of the products of the first k digits -/
def prTo (S : List Int) (u x : Int) : Nat → Int
  | 0 => 0
  | k + 1 => prTo S u x k + dig S u k * dig S x k
/-- the rest of the sum of the products of all digits -/
def prW (S : List Int) (u x : Int) : Int := prTo S u x S.length % gi S 0
/-- whether a word is upright to the first k words of a list -/
def upB (S L : List Int) (x : Int) (k : Nat) : Bool := decide (∀ i, i < k → prW S (gi L i) x = 0)
/-- the dual code -/
def duL (S C : List Int) : List Int := selL (fun w => upB S C (w : Int) C.length) (nW S).toNat
def vDual (S C : List Int) : List Int := if eLin S C = 0 then duL S C else []
/-- the syndrome -/
def syL (S G : List Int) (x : Int) : List Int := G.map fun u => prW S u x
def vSyn (S G : List Int) (x : Int) : List Int := if eSyn S G x = 0 then syL S G x else []
/-- the sum of the first k bits -/
def bsum (m : Nat) : Nat → Nat
  | 0 => 0
  | k + 1 => bsum m k + m / 2 ^ k % 2
/- Plain facts on orders of places and signs. -/
/-- the numbers 0 to n - 1 -/
def upI (n : Nat) : List Int := (List.range n).map fun (i : Nat) => (i : Int)
/-- the first k numbers of p are in 0 .. n - 1, each once -/
def ordTo (p : List Int) (n : Int) (k : Nat) : Bool := decide (∀ i, i < k → (0 ≤ gi p i ∧ gi p i < n) ∧ ∀ j, j < i → gi p j ≠ gi p i)
/-- a list of the numbers 0 .. n - 1, each once -/
def isOrd (p : List Int) (n : Int) : Bool := decide ((p.length : Int) = n ∧ sorted p = upI p.length)
theorem asc_nd {L : List Int} (h : Asc L) : L.Nodup := List.Pairwise.imp (fun h => by omega) h
/-- the first k numbers of L at the places that p tells -/
def plcTo (p L : List Int) : Nat → List Int
  | 0 => List.replicate L.length 0
  | k + 1 => (plcTo p L k).set (gi p k).toNat (gi L k)
def plcD (p L : List Int) : List Int := plcTo p L L.length
end Cv
end Go.Proofs.Ytamebfbddoeflaa
