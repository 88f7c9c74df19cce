import PyProof.Rows.All
import Wide.All
import OpenK.AllK
import Wide.FinOn
import KE.KBits
import KE.BitLaws
import HandS.ForMost
import HandS.ForExc
import HandS.IsInst
import HandS.Wide
import HandS.WideBits
import HandS.WideMore
import HandS.Flow
import HandS.ExcInit
import HandS.Codes
import HandS.ExcField
import HandS.ExcIs
import KE.KExcIs
import KE.KIsAll
import HandS.More
import HandS.Dict
import HandS.CallLocal
import HandS.Zip
import HandS.Text
import HandS.Conv
import HandS.Style
import PySem.Challenge.RW_wasmhost_k42_names_are_put_last
set_option Elab.async false
set_option linter.all false
set_option maxRecDepth 100000
set_option maxHeartbeats 4000000
namespace V
open PySem PySem.Spec PyProof.Rows L2
/-! ### a def that may be called by its name -/
structure Cal (P : Program) (w : World) (K : PySem.W.Frag) (mg : Str → Option Value) (base : Heap) (C : CXT) (k : Nat) (x : Str) (sp : Sp) : Prop where
  ex : ∃ (f : Addr) (fd : FuncData) (ps : List Str), FnOk P w K mg base C k f fd ps sp ∧ mg x = some (.ref f) ∧ PySem.W.keepIn K (.ref f) = true ∧ Binds K fd ps []
section
variable {P : Program} {w : World} {K : PySem.W.Frag} {mg : Str → Option Value} {base : Heap} {k : Nat} {x : Str} {sp sp' : Sp} {C : CXT}
theorem Cal.mono (c : Cal P w K mg base C k x sp) {j : Nat} (h : k ≤ j) : Cal P w K mg base C j x sp := by
  obtain ⟨f, fd, ps, F, m, kp, b⟩ := c.ex
  exact ⟨f, fd, ps, F.mono h, m, kp, b⟩
theorem Cal.imp (c : Cal P w K mg base C k x sp) (h : ∀ vs H Q E, sp' vs H Q E → sp vs H Q E) : Cal P w K mg base C k x sp' := by
  obtain ⟨f, fd, ps, F, m, kp, b⟩ := c.ex
  exact ⟨f, fd, ps, F.imp h, m, kp, b⟩
/-- a def as the top leaves it -/
structure Def (K : PySem.W.Frag) (mg : Str → Option Value) (x : Str) (st : Stmt) (ps : List Str) : Prop where
  ex : ∃ (f : Addr) (fd : FuncData), L2.Fun K x x st f fd ∧ mg x = some (.ref f) ∧ Binds K fd ps []
theorem Def.ok {st : Stmt} {N ps : List Str} (D : Def K mg x st ps) (S : FnScope N ps (defScope st)) (len : ∀ vs H Q E, sp vs H Q E → vs.length = ps.length)
    (hbody : ∀ (f : Addr) (cdv : Value) (A : Around) (outer : List Env) (s : Shared) (H : Hp) (vs : List V) (Q : VK) (E : XK), Room k (A.deeper (envOfC x (defScope st) s.heap.objs.size f cdv)) → sp vs H Q E →
      ∃ t, PSs (cxOf CX0 P w K mg base N x (defScope st) f cdv A outer s H E).nox (defBody st) t ∧ t { nx := fun _ H' => Q .non H', rt := Q } (start N vs) H) : Cal P w K mg base CX0 (k + 1) x sp := by
  obtain ⟨f, fd, F, m, b⟩ := D.ex
  exact ⟨f, fd, ps, F.ok S len (hbody f), m, F.kp, b⟩
theorem Def.okX {st : Stmt} {N ps : List Str} (D : Def K mg x st ps) (S : FnScope N ps (defScope st)) (len : ∀ vs H Q E, sp vs H Q E → vs.length = ps.length)
    (hbody : ∀ (f : Addr) (cdv : Value) (A : Around) (outer : List Env) (s : Shared) (H : Hp) (vs : List V) (Q : VK) (E : XK), Room k (A.deeper (envOfC x (defScope st) s.heap.objs.size f cdv)) → sp vs H Q E →
      ∃ t, PSs (cxOf (L2.CX P w) P w K mg base N x (defScope st) f cdv A outer s H E) (defBody st) t ∧ t { nx := fun _ H' => Q .non H', rt := Q } (start N vs) H) : Cal P w K mg base (L2.CX P w) (k + 1) x sp := by
  obtain ⟨f, fd, F, m, b⟩ := D.ex
  exact ⟨f, fd, ps, F.okX S len (hbody f), m, F.kp, b⟩
end
section
variable {X : Cx} {k j : Nat} {x : Str} {sp : Sp} {p pos : Pos} {e : Expr} {es : List Expr} {t : TA} {C : CXT} {E : XK}
theorem pe_cE (c : Cal X.prog X.w X.K X.mg X.base C k x sp) (hr : Room j X.A) (hk : k ≤ j) (hx : Passes C X E) (hg : Gl X x) (ha : PA X (e :: es) t)
    (hdb : (x == ("__debug__" : Str)) = false := by decide) (he : starEach (e :: es) X.env = (false, eval e X.env) :: starEach es X.env := by rfl) (hpl : (backTo pos (starEach es X.env)).any (·.1) = false := by rfl) :
    PE X (.Call (.Name x p) (e :: es) [] pos) (tCall sp [] E t) := by
  obtain ⟨f, fd, ps, F, hm, kp, b⟩ := c.ex
  exact pe_call F (hr.mono hk) hg hm kp b .nil hx ha hdb he hpl
theorem pe_cE0 (c : Cal X.prog X.w X.K X.mg X.base C k x sp) (hr : Room j X.A) (hk : k ≤ j) (hx : Passes C X E) (hg : Gl X x)
    (hdb : (x == ("__debug__" : Str)) = false := by decide) : PE X (.Call (.Name x p) [] [] pos) (tCall sp [] E tNil) := by
  obtain ⟨f, fd, ps, F, hm, kp, b⟩ := c.ex
  exact pe_call0 F (hr.mono hk) hg hm kp b .nil hx hdb
/-- a def that lets nothing out -/
theorem pe_c (c : Cal X.prog X.w X.K X.mg X.base CX0 k x sp) (hr : Room j X.A) (hk : k ≤ j) (hg : Gl X x) (ha : PA X (e :: es) t)
    (hdb : (x == ("__debug__" : Str)) = false := by decide) (he : starEach (e :: es) X.env = (false, eval e X.env) :: starEach es X.env := by rfl) (hpl : (backTo pos (starEach es X.env)).any (·.1) = false := by rfl) :
    PE X (.Call (.Name x p) (e :: es) [] pos) (tCall sp [] E0 t) := pe_cE c hr hk pass0 hg ha hdb he hpl
theorem pe_c0 (c : Cal X.prog X.w X.K X.mg X.base CX0 k x sp) (hr : Room j X.A) (hk : k ≤ j) (hg : Gl X x)
    (hdb : (x == ("__debug__" : Str)) = false := by decide) : PE X (.Call (.Name x p) [] [] pos) (tCall sp [] E0 tNil) := pe_cE0 c hr hk pass0 hg hdb
end
section
variable {X : Cx} {k j : Nat} {x : Str} {sp : Sp} {p pos : Pos} {e : Expr} {es : List Expr} {t : TA} {C : CXT} {E : L2.St → XK}
/-- a call within a try -/
theorem pe_cS (c : Cal X.prog X.w X.K X.mg X.base C k x sp) (hr : Room j X.A) (hk : k ≤ j) (hg : Gl X x) (hx : ∀ σ, PassesAt C X σ (E σ)) (ha : PA X (e :: es) t)
    (hdb : (x == ("__debug__" : Str)) = false := by decide) (he : starEach (e :: es) X.env = (false, eval e X.env) :: starEach es X.env := by rfl) (hpl : (backTo pos (starEach es X.env)).any (·.1) = false := by rfl) : PE X (.Call (.Name x p) (e :: es) [] pos) (tCallS sp E t) := by
  obtain ⟨f, fd, ps, F, hm, kp, b⟩ := c.ex
  exact pe_callS F (hr.mono hk) hg hm kp b hx ha hdb he hpl
end
theorem hu64 {A : Around} {k : Nat} (hr : Room k A) : A.units + 64 < cLine := by have := hr.un; omega
/-! ### numbers -/
theorem small64 {n : Nat} (h : n ≤ 1000000) : n ≤ sizeLine := Nat.le_trans h (by decide)
theorem small64' {n : Nat} (h : n ≤ 1000000) : n < sizeLine := Nat.lt_of_le_of_lt h (by decide)
theorem shl1 {j : Int} (h : 0 ≤ j) (h2 : j ≤ 100000) : CShl 1 j := by
  obtain ⟨n, rfl⟩ := Int.eq_ofNat_of_zero_le h
  exact shl_ok (n := 1) (by decide) (by omega)
theorem shlN {i j : Int} (hi : i.natAbs < 2 ^ 1000) (h : 0 ≤ j) (h2 : j ≤ 100000) : CShl i j := by
  obtain ⟨n, rfl⟩ := Int.eq_ofNat_of_zero_le h
  exact shl_ok (n := 1000) hi (by omega)
theorem pow_pos2 (k : Nat) : (0 : Int) < 2 ^ k := PySem.W.kbt_pos k
/-! ### heaps -/
theorem Same.new {H : Hp} {p : Addr} {o : HO} (h : H p = none) : Same H (upd H p o) := fun b x e => by
  rw [upd_ne (ne_of_none e h)]; exact e
theorem SqL.new {K : PySem.W.Frag} {H : Hp} {p : Addr} {xs : List V} : SqL K (upd H p (.lst xs)) p xs := .inl (.inl upd_same)
theorem SqT.new {K : PySem.W.Frag} {H : Hp} {p : Addr} {xs : List V} : SqT K (upd H p (.tup xs)) p xs := .inl (.inl upd_same)

/-! ### operators in the words that the readings like -/
section
variable {X : Cx}
/-- i << j, i of a usual size -/
theorem op_shlS : OpR X (binaryOp .LShift) (fun x y H Q => ∃ i j : Int, x = .int i ∧ y = .int j ∧ (i.natAbs < 2 ^ 1000 ∧ 0 ≤ j ∧ j ≤ 100000) ∧ Q (.int (i * 2 ^ j.toNat)) H) := by
  intro pins s σ H x y v u Q I rx ry h
  obtain ⟨i, j, rfl, rfl, ⟨c0, c1, c2⟩, q⟩ := h
  exact op_shlW pins s σ H _ _ v u Q I rx ry ⟨i, j, rfl, rfl, shlN c0 c1 c2, q⟩
theorem nat_small {i : Int} (h : i.natAbs ≤ 18446744073709551616) : i.natAbs < 2 ^ 1000 := Nat.lt_of_le_of_lt h (by decide +kernel)
/-- 1 << j -/
theorem op_shl1 : OpR X (binaryOp .LShift) (fun x y H Q => ∃ j : Int, x = .int 1 ∧ y = .int j ∧ (0 ≤ j ∧ j ≤ 100000) ∧ Q (.int (2 ^ j.toNat)) H) := by
  intro pins s σ H x y v u Q I rx ry h
  obtain ⟨j, rfl, rfl, ⟨c1, c2⟩, q⟩ := h
  refine op_shlW pins s σ H _ _ v u Q I rx ry ⟨1, j, rfl, rfl, shl1 c1 c2, ?_⟩
  show Q (.int (1 * 2 ^ j.toNat)) H
  rw [Int.one_mul]; exact q
end
/-- isinstance(x, T) of a value of a type of its own -/
theorem isi_int {K : PySem.W.Frag} {H : Hp} {i : Int} {Q : VK} (q : Q (.bl true) H) : rIsi K [.int i, .ty "int"] H Q := ⟨.int i, .ty "int", _, _, true, rfl, .ty _, .base (.int _), kit_ty (by decide +kernel), q⟩
theorem isi_int_bool {K : PySem.W.Frag} {H : Hp} {i : Int} {Q : VK} (q : Q (.bl false) H) : rIsi K [.int i, .ty "bool"] H Q := ⟨.int i, .ty "bool", _, _, false, rfl, .ty _, .base (.int _), kit_ty (by decide +kernel), q⟩
theorem isi_list {K : PySem.W.Frag} {H : Hp} {a : Addr} {xs : List V} {Q : VK} (h : H a = some (.lst xs)) (q : Q (.bl true) H) : rIsi K [.ref a, .ty "list"] H Q := ⟨.ref a, .ty "list", _, _, true, rfl, .ty _, .base (.lst h), kit_ty (by decide +kernel), q⟩
theorem isi_tup {K : PySem.W.Frag} {H : Hp} {a : Addr} {xs : List V} {Q : VK} (h : H a = some (.tup xs)) (q : Q (.bl true) H) : rIsi K [.ref a, .ty "tuple"] H Q := ⟨.ref a, .ty "tuple", _, _, true, rfl, .ty _, .base (.tup h), kit_ty (by decide +kernel), q⟩
theorem isi_str {K : PySem.W.Frag} {H : Hp} {z : Str} {Q : VK} (q : Q (.bl true) H) : rIsi K [.str z, .ty "str"] H Q := ⟨.str z, .ty "str", _, _, true, rfl, .ty _, .base (.str _), kit_ty (by decide +kernel), q⟩
/-! ### lists of ints -/
theorem at_ints {ns : List Int} {k : Nat} (h : k < ns.length) : atI (ns.map V.int) (k : Int) = some (.int (ns.getD k 0)) := atI_nat (by
  rw [List.getElem?_map, List.getElem?_eq_getElem h, List.getD_eq_getElem?_getD, List.getElem?_eq_getElem h]; rfl)
theorem cut_to (xs : List V) (k : Nat) : cutV xs none (some (k : Int)) = xs.take k := by
  unfold cutV
  rw [HT.sIx_nat, HT.sIx_none, List.drop_zero, Nat.sub_zero]
  rcases Nat.le_total k xs.length with h | h
  · rw [Nat.min_eq_left h]
  · rw [Nat.min_eq_right h, List.take_length, List.take_of_length_le h]
theorem cut_from (xs : List V) (k : Nat) : cutV xs (some (k : Int)) none = xs.drop k := by
  unfold cutV
  rw [HT.sIx_nat, HT.sIx_none]
  rcases Nat.le_total k xs.length with h | h
  · rw [Nat.min_eq_left h]; exact List.take_of_length_le (by rw [List.length_drop]; exact Nat.le_refl _)
  · rw [Nat.min_eq_right h, Nat.sub_self, List.take_zero, List.drop_eq_nil_of_le h]
/-! ### a reading, gone through as far as it goes by sight -/
local macro_rules | `(tactic| walk_at "side") => `(tactic| first
  | (show _ = _; rfl)
  | (show (0 : Int) < _; first | omega | exact pow_pos2 _)
  | (show (0 : Int) ≤ _; omega)
  | (show (0 : Int) ≤ _ ∧ _; constructor <;> omega)
  | (show (0 : Int) < _ ∧ _; constructor <;> omega)
  | (show (_ < _ ∧ _ < _) ∨ (_ < _ ∧ _ < _); first | exact .inl ⟨by omega, by omega⟩ | exact .inr ⟨by omega, by omega⟩))
local macro_rules | `(tactic| walk_at "loop") => `(tactic| (show ∃ W : (Nat → Nat → L2.St → Hp → Prop), _))
local macro_rules | `(tactic| walk_at "go1") => `(tactic| (fail_if_success walk_at "loop"); first
  | refine And.intro (show (_ : Int) ≤ _ by omega) ?_
  | refine ⟨_, rfl, ?_⟩
  | refine ⟨_, _, rfl, rfl, ?_⟩
  | refine ⟨_, rfl, rfl, ?_⟩
  | refine .inl ⟨_, rfl, ?_⟩
  | refine ⟨_, .ty "int", _, _, true, rfl, .ty _, .base (.int _), kit_ty (by decide +kernel), ?_⟩
  | refine ⟨_, .ty "bool", _, _, false, rfl, .ty _, .base (.int _), kit_ty (by decide +kernel), ?_⟩
  | refine ⟨_, .ty "bool", _, _, false, rfl, .ty _, .base (.str _), kit_ty (by decide +kernel), ?_⟩
  | refine ⟨_, .ty "str", _, _, true, rfl, .ty _, .base (.str _), kit_ty (by decide +kernel), ?_⟩
  | refine ⟨_, .ty "list", _, _, true, rfl, .ty _, .base (.lst (by assumption)), kit_ty (by decide +kernel), ?_⟩
  | refine ⟨_, .ty "tuple", _, _, true, rfl, .ty _, .base (.tup (by assumption)), kit_ty (by decide +kernel), ?_⟩
  | refine ⟨_, _, rfl, .inl (by assumption), ?_⟩
  | refine ⟨_, _, rfl, .inr (by assumption), ?_⟩
  | refine ⟨_, _, rfl, ?_⟩
  | refine ⟨_, _, _, _, rfl, rfl, by assumption, at_ints (by omega), ?_⟩
  | refine ⟨_, _, _, _, rfl, rfl, by assumption, rfl, ?_⟩
  | refine iteF ?_
  | refine iteT ?_
  | refine iteNS rfl ?_
  | (refine And.intro ?h1 ?h2; case h1 => first
    | walk_at "side"
    | assumption
    | (show (_ : Nat) ≤ _; omega)
    | (show (_ : Int) ≤ _; omega)
    | (show (_ : Int) < _; omega)
    | (show 0 ≤ sizeLine; decide)
    | (show 1 ≤ sizeLine; decide)
    | (show 2 ≤ sizeLine; decide)
    | (show 3 ≤ sizeLine; decide)
    | (show 4 ≤ sizeLine; decide)
    | (show (_ : Nat) ≤ _; decide)))
local macro_rules | `(tactic| walk_at "go") => `(tactic| repeat walk_at "go1")
/-! ### tests that read alone, loops -/
theorem tor_b {t u : TT} {σ : L2.St} {H : Hp} {Q : Bool → Hp → Prop} (b1 b2 : Bool) (h1 : ∀ Q, Q b1 H → t σ H Q) (h2 : ∀ Q, Q b2 H → u σ H Q) (q : Q (b1 || b2) H) : tOr t u σ H Q := by
  refine h1 _ ?_
  cases b1 with
  | true => rw [if_pos rfl]; exact q
  | false => rw [if_neg (by decide)]; exact h2 _ q
theorem tand_b {t u : TT} {σ : L2.St} {H : Hp} {Q : Bool → Hp → Prop} (b1 b2 : Bool) (h1 : ∀ Q, Q b1 H → t σ H Q) (h2 : ∀ Q, Q b2 H → u σ H Q) (q : Q (b1 && b2) H) : tAnd t u σ H Q := by
  refine h1 _ ?_
  cases b1 with
  | true => rw [if_pos rfl]; exact h2 _ q
  | false => rw [if_neg (by decide)]; exact q
theorem while_ev {c : TT} {tb : TS} {D : Ends} {σ : L2.St} {H : Hp} (Pv : L2.St → Hp → Prop) (μ : L2.St → Hp → Nat) (h0 : Pv σ H)
    (hs : ∀ σ H, Pv σ H → ∃ b : Bool, (∀ Q, Q b H → c σ H Q) ∧ (b = true → tb { D with nx := fun σ' H' => Pv σ' H' ∧ μ σ' H' < μ σ H, ct := fun σ' H' => Pv σ' H' ∧ μ σ' H' < μ σ H, bk := D.nx } σ H) ∧ (b = false → D.nx σ H)) : tWhile c tb D σ H := by
  refine ⟨fun m σ H => m = μ σ H ∧ Pv σ H, ⟨_, rfl, h0⟩, ?_⟩
  rintro m σ H ⟨rfl, p⟩
  obtain ⟨b, h1, h2, h3⟩ := hs σ H p
  refine h1 _ ?_
  cases b with
  | true => exact ⟨_, fun σ' H' ⟨p', l⟩ => ⟨_, l, rfl, p'⟩, h2 rfl⟩
  | false => exact h3 rfl
/-- the loops' bookkeeping, with what follows and what returns told apart -/
theorem for_listD {K : PySem.W.Frag} {a : Addr} {xs : List V} {g : TG} {tb : TS} {nx : L2.St → Hp → Prop} {rt : VK} {σ : L2.St} {H : Hp} (Pv : Nat → L2.St → Hp → Prop) (h0 : Pv 0 σ H) (hl : ∀ i σ H, i ≤ xs.length → Pv i σ H → SqL K H a xs)
    (hs : ∀ i x σ H, xs[i]? = some x → Pv i σ H → g x σ H fun σ2 H2 => tb { nx := Pv (i + 1), rt := rt, bk := nx, ct := Pv (i + 1) } σ2 H2) (hd : ∀ σ H, Pv xs.length σ H → nx σ H) :
    ∃ W : Nat → Nat → L2.St → Hp → Prop, (∃ m, W 0 m σ H) ∧ ∀ i m σ H, W i m σ H → ((Itl K a).stop i H ∧ nx σ H) ∨ ((Itl K a).go i H ∧ ∃ N : L2.St → Hp → Prop, (∀ σ' H', N σ' H' → ∃ m', m' < m ∧ W (i + 1) m' σ' H') ∧
      ∀ x H', (Itl K a).yld i H x H' → g x σ H' fun σ2 H2 => tb { nx := N, rt := rt, bk := nx, ct := N } σ2 H2) := for_list (D := { nx := nx, rt := rt }) Pv h0 hl hs hd
theorem for_rangeD {lo : Int} {n : Nat} {g : TG} {tb : TS} {nx : L2.St → Hp → Prop} {rt : VK} {σ : L2.St} {H : Hp} (Pv : Nat → L2.St → Hp → Prop) (h0 : Pv 0 σ H)
    (hs : ∀ i σ H, i < n → Pv i σ H → g (.int (lo + i)) σ H fun σ2 H2 => tb { nx := Pv (i + 1), rt := rt, bk := nx, ct := Pv (i + 1) } σ2 H2) (hd : ∀ σ H, Pv n σ H → nx σ H) :
    ∃ W : Nat → Nat → L2.St → Hp → Prop, (∃ m, W 0 m σ H) ∧ ∀ i m σ H, W i m σ H → ((Itr lo n).stop i H ∧ nx σ H) ∨ ((Itr lo n).go i H ∧ ∃ N : L2.St → Hp → Prop, (∀ σ' H', N σ' H' → ∃ m', m' < m ∧ W (i + 1) m' σ' H') ∧
      ∀ x H', (Itr lo n).yld i H x H' → g x σ H' fun σ2 H2 => tb { nx := N, rt := rt, bk := nx, ct := N } σ2 H2) := for_range (D := { nx := nx, rt := rt }) Pv h0 hs hd
/-! ### a comprehension that makes f of each item -/
theorem lc_map {K : PySem.W.Frag} {a : Addr} {xs : List V} {j : Nat} {te : TE} {σ : L2.St} {H1 : Hp} {D : Addr} {Qd : Hp → Prop} (f : V → V) (hD : H1 D = none) (hS : SqL K H1 a xs) (hn : xs.length ≤ 100000)
    (hs : ∀ x H Q, x ∈ xs → Same H1 H → (∀ H', Same H H' → Q (f x) H') → te ((σ.set j none).set j (some x)) H Q) (hd : ∀ H, Same H1 H → H D = some (.lst (xs.map f)) → Qd H) :
    ∃ W : Nat → Nat → Hp → Prop, (∃ m, W 0 m (upd H1 D (.lst []))) ∧ ∀ i m H, W i m H →
      ((Itl K a).stop i H ∧ Qd H) ∨ ((Itl K a).go i H ∧ ∃ Nx : Hp → Prop, (∀ H', Nx H' → ∃ m', m' < m ∧ W (i + 1) m' H') ∧ ∀ x H', (Itl K a).yld i H x H' → gName j x (wipe σ [j]) H' fun σ2 H2 => wipe σ2 [j] = wipe σ [j] ∧ tYes σ2 H2 fun b H3 =>
        if b = true then te σ2 H3 fun y H4 => ∃ acc, H4 D = some (.lst acc) ∧ acc.length < sizeLine ∧ Nx (upd H4 D (.lst (acc ++ [y]))) else Nx H3) := by
  refine lc_list (xs := xs) (fun i H => Same H1 H ∧ H D = some (.lst ((xs.take i).map f))) ⟨Same.new hD, by rw [upd_same]; rfl⟩ (fun i H _ h => h.1.seq hS) (fun i x H hx h => ?_) (fun H h => hd H h.1 (by rw [List.take_length] at h; exact h.2))
  have hi : i < xs.length := (List.getElem?_eq_some_iff.mp hx).1
  refine ⟨?_, ?_⟩
  · show (((σ.set j none).set j (some x)).set j none) = σ.set j none
    rw [List.set_set, List.set_set]
  · simp only [tYes, if_true]
    refine hs x H _ (List.mem_of_getElem? hx) h.1 fun H' s' => ?_
    refine ⟨_, s' _ _ h.2, ?_, fun b o e => ?_, ?_⟩
    · rw [List.length_map, List.length_take]; exact small64' (by omega)
    · have nb : b ≠ D := fun z => by rw [z, hD] at e; cases e
      rw [upd_ne nb]; exact s' _ _ (h.1 _ _ e)
    · rw [upd_same, List.take_add_one, hx, List.map_append]; rfl

/-! ### own errors with fields -/
/-- what the top has written of an own error's class, whose base is ValueError by some way -/
structure ExK (K : PySem.W.Frag) (mg : Str → Option Value) (x : Str) (C : Addr) : Prop where
  g : mg x = some (.ref C)
  T : OexC K C
  ga : PySem.W.findIn K (.ref C) "__getattribute__" = some (some (.builtin "BaseException.__getattribute__"))
  gg : PySem.W.findIn K (.ref C) "__getattr__" = some none
  hd : PySem.W.hasDictIn K C = true
  ca : PySem.W.findIn K (.ref C) "__class__" = some (some (.builtin "object.__class__"))
  sp : PySem.W.specialIn K (.builtin "object.__class__") "__get__" = some (some (.builtin "getset_descriptor.__get__"))
  tk : PySem.W.takesIn K (.builtin "object.__class__") = some true
  mr : PySem.W.mroIn K C (.type "object") = some true
theorem ExK.xf {K : PySem.W.Frag} {mg : Str → Option Value} {x : Str} {C : Addr} (k : ExK K mg x C) : XfC K C := ⟨k.ga, k.gg, k.T.exC, k.hd⟩
def spI1 (K : PySem.W.Frag) (C : Addr) (a : Str) : Sp := fun vs H Q _ => ∃ (s : Addr) (v : V), vs = [.ref s, v] ∧ H s = some (exo s C none) ∧
  ∀ d, H d = none → d ≠ s → Q .non (upd (upd H d (exd d [(a, v)])) s (exo s C (some d)))
def spI2 (K : PySem.W.Frag) (C : Addr) (a b : Str) : Sp := fun vs H Q _ => ∃ (s : Addr) (v u : V), vs = [.ref s, v, u] ∧ H s = some (exo s C none) ∧
  ∀ d, H d = none → d ≠ s → Q .non (upd (upd (upd H d (exd d [(a, v)])) s (exo s C (some d))) d (exd d [(b, u), (a, v)]))
theorem del_upd {H : Hp} {s d : Addr} {o o' : HO} (hs : H s = none) (hd : H d = none) (ne : d ≠ s) {K : Hp} (hK : ∀ b, b ≠ s → b ≠ d → K b = H b) : Same H (upd (del K s) d o) := fun b x e => by
  have nd : b ≠ d := ne_of_none e hd
  have ns : b ≠ s := ne_of_none e hs
  rw [upd_ne nd, del_ne ns, hK b ns nd]; exact e
/-- X(v): an error flies whose dict, new at d, holds the field; all else stands -/
theorem fly1 {K : PySem.W.Frag} {C : Addr} {a : Str} {v : V} {H : Hp} {Q : XK} (h : ∀ d Hf, Same H Hf → Hf d = some (.xd [(a, v)]) → Q (.ref C) (some d) Hf) :
    ([v] : List V).length ≤ 1000 ∧ ∀ s, H s = none → spI1 K C a (.ref s :: ([v] ++ [])) (upd H s (exo s C none))
      (fun v H2 => v = .non ∧ ∃ (d : Addr) (fs : List (Str × V)), H2 s = some (exo s C (some d)) ∧ H2 d = some (exd d fs) ∧ H d = none ∧ Q (.ref C) (some d) (upd (del H2 s) d (.xd fs))) (fun _ _ _ => False) := by
  refine ⟨by show 1 ≤ 1000; decide, fun s hs => ⟨s, v, rfl, upd_same, fun d hd ne => ⟨rfl, d, [(a, v)], upd_same, ?_, ?_, ?_⟩⟩⟩
  · rw [upd_ne ne, upd_same]
  · rw [upd_ne ne] at hd; exact hd
  · have hd' : H d = none := by rw [upd_ne ne] at hd; exact hd
    refine h d _ (del_upd (o' := .lst []) hs hd' ne fun b nb nd => ?_) upd_same
    rw [upd_ne nb, upd_ne nd, upd_ne nb]
theorem fly2 {K : PySem.W.Frag} {C : Addr} {a b : Str} {v u : V} {H : Hp} {Q : XK} (h : ∀ d Hf, Same H Hf → Hf d = some (.xd [(b, u), (a, v)]) → Q (.ref C) (some d) Hf) :
    ([v, u] : List V).length ≤ 1000 ∧ ∀ s, H s = none → spI2 K C a b (.ref s :: ([v, u] ++ [])) (upd H s (exo s C none))
      (fun v H2 => v = .non ∧ ∃ (d : Addr) (fs : List (Str × V)), H2 s = some (exo s C (some d)) ∧ H2 d = some (exd d fs) ∧ H d = none ∧ Q (.ref C) (some d) (upd (del H2 s) d (.xd fs))) (fun _ _ _ => False) := by
  refine ⟨by show 2 ≤ 1000; decide, fun s hs => ⟨s, v, u, rfl, upd_same, fun d hd ne => ⟨rfl, d, [(b, u), (a, v)], ?_, upd_same, ?_, ?_⟩⟩⟩
  · rw [upd_ne ne.symm, upd_same]
  · rw [upd_ne ne] at hd; exact hd
  · have hd' : H d = none := by rw [upd_ne ne] at hd; exact hd
    refine h d _ (del_upd (o' := .lst []) hs hd' ne fun b nb nd => ?_) upd_same
    rw [upd_ne nd, upd_ne nb, upd_ne nd, upd_ne nb]
section
variable {P : Program} {w : World} {K : PySem.W.Frag} {mg : Str → Option Value} {base : Heap} {C f : Addr} {fd : FuncData} {qual : Str}
/-- an __init__ that stores its one parameter, its two parameters, under their names -/
theorem init1 {st : Stmt} {a : Str} (F : L2.Fun K "__init__" qual st f fd) (S : FnScope ["self", a] ["self", a] (defScope st)) (T : OexC K C) (na : PySem.W.findIn K (.ref C) a = some none) {p1 p2 p3 p4 : Pos} (hb : defBody st = [.Assign [.Attribute (.Name "self" p1) a p2] (.Name a p3) p4])
    (va : Vis (defScope st) a) (vs : Vis (defScope st) "self") (d1 : (a == ("__debug__" : Str)) = false) (d2 : (a == ("__classdict__" : Str)) = false) : FnOk P w K mg base CX0 1 f fd ["self", a] (spI1 K C a) := by
  refine F.ok S (fun vs H Q E h => ?_) (fun cdv A outer s H vs Q E hr h => ?_)
  · obtain ⟨s, v, rfl, _⟩ := h; rfl
  · obtain ⟨s, v, rfl, hs, q⟩ := h
    rw [hb]
    refine ⟨_, pss_one (ps_ost (pe_var (i := 0) rfl (by assumption)) (pe_var (i := 1) rfl (by assumption) d1 d2)), ?_⟩
    exact ⟨_, rfl, _, rfl, s, C, rfl, T, na, .inl ⟨hs, fun d hd ne => q d hd ne⟩⟩
theorem init2 {st : Stmt} {a b : Str} (F : L2.Fun K "__init__" qual st f fd) (S : FnScope ["self", a, b] ["self", a, b] (defScope st)) (T : OexC K C) (na : PySem.W.findIn K (.ref C) a = some none) (nb : PySem.W.findIn K (.ref C) b = some none) {p1 p2 p3 p4 q1 q2 q3 q4 : Pos}
    (hb : defBody st = [.Assign [.Attribute (.Name "self" p1) a p2] (.Name a p3) p4, .Assign [.Attribute (.Name "self" q1) b q2] (.Name b q3) q4])
    (va : Vis (defScope st) a) (vb : Vis (defScope st) b) (vs : Vis (defScope st) "self") (d1 : (a == ("__debug__" : Str)) = false) (d2 : (a == ("__classdict__" : Str)) = false) (d3 : (b == ("__debug__" : Str)) = false) (d4 : (b == ("__classdict__" : Str)) = false) : FnOk P w K mg base CX0 1 f fd ["self", a, b] (spI2 K C a b) := by
  refine F.ok S (fun vs H Q E h => ?_) (fun cdv A outer s H vs Q E hr h => ?_)
  · obtain ⟨s, v, u, rfl, _⟩ := h; rfl
  · obtain ⟨s, v, u, rfl, hs, q⟩ := h
    rw [hb]
    refine ⟨_, pss_cons (ps_ost (pe_var (i := 0) rfl (by assumption)) (pe_var (i := 1) rfl (by assumption) d1 d2)) (pss_one (ps_ost (pe_var (i := 0) rfl (by assumption)) (pe_var (i := 2) rfl (by assumption) d3 d4))), ?_⟩
    refine ⟨_, rfl, _, rfl, s, C, rfl, T, na, .inl ⟨hs, fun d hd ne => ?_⟩⟩
    exact ⟨_, rfl, _, rfl, s, C, rfl, T, nb, .inr ⟨d, _, upd_same, by rw [upd_ne ne, upd_same], (by show 1 ≤ 900; decide), q d hd ne⟩⟩
end
/-- isinstance(e, c), e the caught error at a, of the class D, its dict at dd -/
theorem call_isX {X : Cx} {a D : Addr} {oe : Obj} {cls : Value} {d : Option Addr} {pn : List (Addr × Obj)} (hz : Zc cls d oe) (hf : ∃ vs, oe.data = .fields vs) {x : Str} (k : ExK X.K X.mg x D) : CallR (X.suite a ((a, oe) :: pn)) (.builtin "isinstance")
    (fun xs H Q => ∃ (c : V) (cv : Value) (b : Bool) (dd : Addr) (fs : List (Str × V)), xs = [.ref a, c] ∧ cls = .ref D ∧ d = some dd ∧ H dd = some (.xd fs) ∧ RelV c cv ∧ (∀ u, RelV c u → u = cv) ∧ PySem.W.kitOne X.K (.ref D) cv = some b ∧ Q (.bl b) H) := by
  intro pins s σ H xs us Q I r h
  obtain ⟨c, cv, b, dd, fs, rfl, rfl, rfl, ea, _, hcv, e, q⟩ := h
  obtain ⟨u1, u2, rfl, r1, r2⟩ := vals2 r
  cases r1
  have ec := hcv _ r2
  subst ec
  obtain ⟨hget, _⟩ := I.pin (a, oe) (List.mem_append.mpr (.inl List.mem_cons_self))
  obtain ⟨vs, hv⟩ := hf
  have hx : ObjOk X.prog X.w H s.heap dd (.xd fs) := I.hok dd _ ea
  obtain ⟨mA, ⟨od, es, ep, ho, hl⟩, hr⟩ := hx
  have J : PySem.W.InstAt s.heap a oe D (some od) := ⟨hget, hz.1, by unfold PySem.W.notCls; rw [hv] <;> rfl, by rw [hz.2]; exact ho⟩
  have hc : (PySem.W.clsIn X.K D).isSome = true := by
    have h := k.hd
    unfold PySem.W.hasDictIn at h
    cases hh : PySem.W.clsIn X.K D with
    | none => rw [hh] at h; cases h
    | some cd => rfl
  exact PySem.W.kia_one (PySem.W.kitx_exc hc k.ga k.gg k.T.exC k.ca k.sp k.tk k.mr) I.kIn J e (fun z => nomatch z) fun tk => ⟨.bl b, H, I.kept (t' := tk) fun _ _ z => z, rfl, q⟩
/-- what isinstance and an except clause ask of own classes -/
theorem kit_self {K : PySem.W.Frag} {C : Addr} : PySem.W.kitOne K (.ref C) (.ref C) = some true := by
  unfold PySem.W.kitOne
  rw [if_pos (by exact beq_self_eq_true (Value.ref C))]
theorem kit_two {K : PySem.W.Frag} {D C : Addr} {b : Bool} (ne : (Value.ref D == Value.ref C) = false) (hd : PySem.W.hasDictIn K C = true) (ht : PySem.W.typeIn K (.ref C) = some (.type "type")) (hs : PySem.W.subIn K (.ref D) (.ref C) = some b) : PySem.W.kitOne K (.ref D) (.ref C) = some b := by
  have hc : (PySem.W.clsIn K C).isSome = true := by
    unfold PySem.W.hasDictIn at hd
    cases hh : PySem.W.clsIn K C with
    | none => rw [hh] at hd; cases hd
    | some cd => rfl
  unfold PySem.W.kitOne PySem.W.kitCls
  rw [ne, if_neg (by decide)]
  show (if ((PySem.W.clsIn K C).isSome && PySem.W.typeIn K (.ref C) == some (.type "type")) = true then PySem.W.subIn K (.ref D) (.ref C) else none) = some b
  rw [hc, ht, hs]; rfl
theorem kit_ve {K : PySem.W.Frag} {D : Addr} (hs : PySem.W.subIn K (.ref D) (.type "ValueError") = some true) : PySem.W.kitOne K (.ref D) (.type "ValueError") = some true := by
  unfold PySem.W.kitOne PySem.W.kitCls
  rw [show (Value.ref D == Value.type "ValueError") = false from rfl, if_neg (by decide)]
  show (if PySem.W.kitMeta "ValueError" = true then PySem.W.subIn K (.ref D) (.type "ValueError") else none) = some true
  rw [if_pos (by decide +kernel), hs]

/-! ### the text by places -/
def top (i : Nat) : Stmt := PySem.Challenge.pw_wasmhost_k42_names_are_put_last.main.body.getD i (.Pass ⟨0, 0, 0, 0⟩)
abbrev s_lookup : Stmt := top 5
abbrev s_with_names : Stmt := top 6
abbrev s_put_names : Stmt := top 7
abbrev s_put_name : Stmt := top 8
abbrev s_publish_items : Stmt := top 9
abbrev s__law_tape : Stmt := top 11
abbrev s__law_draw : Stmt := top 12
abbrev s__law_is_int : Stmt := top 13
abbrev s__law_word : Stmt := top 14
abbrev s__law_item : Stmt := top 15
abbrev s__law_put : Stmt := top 16
abbrev s__law_row_fits : Stmt := top 17
abbrev s__law_agrees : Stmt := top 18
abbrev s__law_deed : Stmt := top 19
abbrev s_law : Stmt := top 20
theorem sc_lookup : FnScope ["names", "module", "name", "row"] ["names", "module", "name"] (defScope s_lookup) := ⟨rfl, rfl, rfl, by decide +kernel, rfl, by decide +kernel, by decide +kernel⟩
theorem sc_with_names : FnScope ["names", "rows", "result", "row", "name"] ["names", "rows"] (defScope s_with_names) := ⟨rfl, rfl, rfl, by decide +kernel, rfl, by decide +kernel, by decide +kernel⟩
theorem sc_put_names : FnScope ["names", "rows", "result"] ["names", "rows"] (defScope s_put_names) := ⟨rfl, rfl, rfl, by decide +kernel, rfl, by decide +kernel, by decide +kernel⟩
theorem sc_put_name : FnScope ["names", "module", "name", "kind", "index"] ["names", "module", "name", "kind", "index"] (defScope s_put_name) := ⟨rfl, rfl, rfl, by decide +kernel, rfl, by decide +kernel, by decide +kernel⟩
theorem sc_publish_items : FnScope ["names", "module", "items", "item"] ["names", "module", "items"] (defScope s_publish_items) := ⟨rfl, rfl, rfl, by decide +kernel, rfl, by decide +kernel, by decide +kernel⟩
theorem sc__law_tape : FnScope ["script", "tape", "cell", "number", "k", "first"] ["script"] (defScope s__law_tape) := ⟨rfl, rfl, rfl, by decide +kernel, rfl, by decide +kernel, by decide +kernel⟩
theorem sc__law_draw : FnScope ["tape", "at", "many", "number"] ["tape", "at", "many"] (defScope s__law_draw) := ⟨rfl, rfl, rfl, by decide +kernel, rfl, by decide +kernel, by decide +kernel⟩
theorem sc__law_is_int : FnScope ["actual"] ["actual"] (defScope s__law_is_int) := ⟨rfl, rfl, rfl, by decide +kernel, rfl, by decide +kernel, by decide +kernel⟩
theorem sc__law_word : FnScope ["tape", "at", "pick", "letter"] ["tape", "at"] (defScope s__law_word) := ⟨rfl, rfl, rfl, by decide +kernel, rfl, by decide +kernel, by decide +kernel⟩
theorem sc__law_item : FnScope ["tape", "at", "kind"] ["tape", "at"] (defScope s__law_item) := ⟨rfl, rfl, rfl, by decide +kernel, rfl, by decide +kernel, by decide +kernel⟩
theorem sc__law_put : FnScope ["model", "row", "old"] ["model", "row"] (defScope s__law_put) := ⟨rfl, rfl, rfl, by decide +kernel, rfl, by decide +kernel, by decide +kernel⟩
theorem sc__law_row_fits : FnScope ["actual", "due", "k"] ["actual", "due"] (defScope s__law_row_fits) := ⟨rfl, rfl, rfl, by decide +kernel, rfl, by decide +kernel, by decide +kernel⟩
theorem sc__law_agrees : FnScope ["names", "model", "k"] ["names", "model"] (defScope s__law_agrees) := ⟨rfl, rfl, rfl, by decide +kernel, rfl, by decide +kernel, by decide +kernel⟩
theorem sc__law_deed : FnScope ["names", "deed", "e", "row"] ["names", "deed"] (defScope s__law_deed) := ⟨rfl, rfl, rfl, by decide +kernel, rfl, by decide +kernel, by decide +kernel⟩
theorem sc_law : FnScope ["script", "tape", "names", "model", "k", "base", "module", "many", "word", "rows", "j", "due", "row", "full", "answer"] ["script"] (defScope s_law) := ⟨rfl, rfl, rfl, by decide +kernel, rfl, by decide +kernel, by decide +kernel⟩
/-- where the own classes stand -/
structure Cs where
  C_HostError : Addr
  C_LimitReached : Addr
  I_LimitReached : Addr
  D_LimitReached : FuncData
abbrev i_LimitReached : Stmt := inClass (top 2) 0
theorem sci_LimitReached : FnScope ["self", "what"] ["self", "what"] (defScope i_LimitReached) := ⟨rfl, rfl, rfl, by decide +kernel, rfl, by decide +kernel, by decide +kernel⟩
/-- what the top leaves: built-in names that nothing binds, own classes -/
structure Tp (w : World) (K : PySem.W.Frag) (mg : Str → Option Value) (cs : Cs) : Prop where
  m_ValueError : mg "ValueError" = none
  m_bool : mg "bool" = none
  m_int : mg "int" = none
  m_isinstance : mg "isinstance" = none
  m_len : mg "len" = none
  m_list : mg "list" = none
  m_range : mg "range" = none
  m_str : mg "str" = none
  m_tuple : mg "tuple" = none
  g_HostError : mg "HostError" = some (.ref cs.C_HostError)
  g_LimitReached : mg "LimitReached" = some (.ref cs.C_LimitReached)
  e_LimitReached : ExK K mg "LimitReached" cs.C_LimitReached
  iC_LimitReached : PySem.W.findIn K (.ref cs.C_LimitReached) "__init__" = some (some (.ref cs.I_LimitReached))
  tI_LimitReached : PySem.W.typeIn K (.ref cs.I_LimitReached) = some (.type "function")
  F_LimitReached : L2.Fun K "__init__" "LimitReached.__init__" i_LimitReached cs.I_LimitReached cs.D_LimitReached
  b_LimitReached : Binds K cs.D_LimitReached ["self", "what"] []
  no_LimitReached_what : PySem.W.findIn K (.ref cs.C_LimitReached) "what" = some none
  kit_LimitReached_HostError : PySem.W.kitOne K (.ref cs.C_LimitReached) (.ref cs.C_HostError) = some true
  exm_LimitReached_HostError : PySem.W.exmOne K (.ref cs.C_LimitReached) (.ref cs.C_HostError) = some true
  kit_LimitReached_LimitReached : PySem.W.kitOne K (.ref cs.C_LimitReached) (.ref cs.C_LimitReached) = some true
  exm_LimitReached_LimitReached : PySem.W.exmOne K (.ref cs.C_LimitReached) (.ref cs.C_LimitReached) = some true
  kit_LimitReached_VE : PySem.W.kitOne K (.ref cs.C_LimitReached) (.type "ValueError") = some true
  i_MOST_NAMES : ∃ t, mg "MOST_NAMES" = some (.int 60 t)
theorem in_LimitReached {P : Program} {w : World} {K : PySem.W.Frag} {mg : Str → Option Value} {base : Heap} {cs : Cs} (T : Tp w K mg cs) : FnOk P w K mg base CX0 1 cs.I_LimitReached cs.D_LimitReached ["self", "what"] (spI1 K cs.C_LimitReached "what") :=
  init1 T.F_LimitReached sci_LimitReached T.e_LimitReached.T T.no_LimitReached_what rfl (.inl rfl) (.inl rfl) (by decide) (by decide)
theorem bounds_all (n : Nat) : sliceBounds none none none n = (((0 : Nat) : Int), ((n : Nat) : Int), 1) := rfl
section
variable {prog : Program} {w : World} {A : Around} {E : Value → Shared → Prop} {s : Shared}
/-- l[:] = b of another list -/
theorem put_all_raw {l b sl : Addr} {old new : Array Value} {n n2 : Nat} {Q : Unit → Shared → Prop}
    (el : s.heap.get? l = some { cls := .type "list", data := .seq old n }) (eb : s.heap.get? b = some { cls := .type "list", data := .seq new n2 }) (hne : l ≠ b)
    (hs : s.heap.IsSliceOf sl .none .none .none) (hz : old.size + new.size ≤ sizeLine)
    (h : Q () { s with heap := s.heap.update l (Obj.mapSeq fun xs => xs.extract 0 0 ++ new ++ xs.extract old.size xs.size) }) :
    wpAny (model prog w) A (setItem (.ref l) (.ref sl) (.ref b)) Q E s := by
  have tl : s.heap.IsList l old := PySem.IsL.isList el
  have tb : s.heap.IsList b new := PySem.IsL.isList eb
  obtain ⟨os, ho, hc, hd⟩ := id hs
  have ts : s.TypeIs (.ref sl) "slice" := ⟨os, ho, hc⟩
  have hsame : Builtin.List.listSameRef (.ref l) (.ref b) = false := beq_eq_false_iff_ne.mpr hne
  unfold setItem
  try with_reducible refine wpAny_holding ?_
  first | refine wpAny_bind (wpAny_pure ?_) | skip
  refine wpAny_bind (wpAny_sequenceKey tl.typeIs (by decide) ?_)
  refine wpAny_bind (wpAny_callSpecial?_slot (name := Str.ofString "__setitem__") tl.typeIs slot_list_setitem
    (wpAny_call_entry slot_list_setitem tl.typeIs entry_list_setitem ?_ (args_list_setitem _ _ _)))
  show wpAny _ _ (Builtin.List.listSubscript? (.ref sl) >>= _) _ _ s
  refine wpAny_bind ?_
  unfold Builtin.List.listSubscript?
  refine wpAny_bind (wpAny_specialOf ts slice_no_index ?_)
  simp only [Option.isNone_none, if_true]
  refine wpAny_pure ?_
  show wpAny _ _ (typeOf (.ref sl) >>= _) _ _ s
  refine wpAny_bind (wpAny_typeOf ts ?_)
  rw [if_neg (by decide)]
  rw [listSliceParts_eq]
  refine wpAny_bind (wpAny_bind (wpAny_field ho hd (x := .none) rfl (wpAny_bind (wpAny_listPart .none ?_))))
  rw [if_neg (show ¬ ((rawPart none == rawInt 0) = true) from Bool.false_ne_true)]
  refine wpAny_bind (wpAny_field ho hd (x := .none) rfl (wpAny_bind (wpAny_listPart .none ?_)))
  refine wpAny_bind (wpAny_field ho hd (x := .none) rfl (wpAny_bind (wpAny_listPart .none (wpAny_pure ?_))))
  dsimp only
  first
    | simp only [hsame, Bool.false_eq_true, if_false]
    | refine PySem.W.KFB.if_not hsame ?_
  refine wpAny_bind (m := Builtin.List.listAllItems (.ref b) "must assign iterable to extended slice") ?_
  unfold Builtin.List.listAllItems
  refine wpAny_bind (wpAny_typeOf tb.typeIs ?_)
  first
    | refine PySem.W.KFB.if_so (by decide) ?_
    | rw [if_pos (by decide)]
  unfold Builtin.List.listItems
  refine wpAny_bind (wpAny_seqItems eb rfl (wpAny_pure ?_))
  refine wpAny_bind (wpAny_bind (wpAny_seqItems el rfl (wpAny_pure ?_)))
  refine wpAny_bind (wpAny_of_eq ((sliceIndices_raw none none none old.size (by simp)).trans (congrArg (pure : Int × Int × Int → Sem (Int × Int × Int)) (bounds_all old.size))) ?_)
  show wpAny _ _ (if ((1 : Int) == 1) = true then _ else _) _ _ s
  rw [if_pos (by decide)]
  refine wpAny_bind (wpAny_rule ?_)
  first
    | simp only [notLongL hz, Bool.false_eq_true, if_false]
    | refine PySem.W.KFB.if_not (notLongL hz) ?_
  show wpAny _ _ (updateSeq l (fun xs => xs.extract 0 ((0 : Nat) : Int).toNat ++ new ++ xs.extract (max ((0 : Nat) : Int) ((old.size : Nat) : Int)).toNat xs.size) >>= _) _ _ s
  rw [show (max ((0 : Nat) : Int) ((old.size : Nat) : Int)).toNat = old.size by omega, Int.toNat_natCast]
  have hz' : ((fun xs : Array Value => xs.extract 0 0 ++ new ++ xs.extract old.size xs.size) old).size ≤ sizeLine + 1 := by
    simp only [Array.size_append, Array.size_extract]
    omega
  refine wpAny_bind (wpAny_updateSeq (hz := Nat.le_trans (Nat.le_add_right _ _) hz) (_hz' := hz') el rfl ?_)
  refine wpAny_bind (wpAny_letGo ?_)
  first
    | exact wpAny_bind (wpAny_pure (wpAny_pure ⟨.none, rfl, wpAny_pure h⟩))
    | exact wpAny_pure ⟨.none, rfl, wpAny_pure h⟩
end
section
variable {X : Cx} {s : Shared} {H : Hp} {sc : Scope} {en : Env} {fp : List Addr}
theorem sl_tupB : SlR (X.blk s H sc en fp) (rSlT X.K) := sl_tup
theorem pi_listT {tg iter : Expr} {te : TE} {pn : List (Addr × Obj)} {xe : Value → Shared → Prop} (he : PE (X.tr pn xe) iter te) : PI (X.tr pn xe) tg iter (iList X.K te) := pi_list he
theorem ix_tupTr {pn : List (Addr × Obj)} {xe : Value → Shared → Prop} : IxR (X.tr pn xe) (L2.rIxT X.K) := ix_tup
theorem ix_listTr {pn : List (Addr × Obj)} {xe : Value → Shared → Prop} : IxR (X.tr pn xe) (L2.rIxL X.K) := ix_list
theorem sl_tupBT {pn : List (Addr × Obj)} {xe : Value → Shared → Prop} : SlR ((X.tr pn xe).blk s H sc en fp) (rSlT X.K) := sl_tup
theorem op_catTB : OpR (X.blk s H sc en fp) (binaryOp .Add) (rCatT X.K) := op_catT
theorem op_neDB (hu : X.A.units + 64 < cLine) : OpR (X.blk s H sc en fp) (compareOp .NotEq) (rNeD X.K) := op_neD (X := X.blk s H sc en fp) hu
theorem op_eqDB (hu : X.A.units + 64 < cLine) : OpR (X.blk s H sc en fp) (compareOp .Eq) (rEqD X.K) := op_eqD (X := X.blk s H sc en fp) hu
end

section
variable {X : Cx}
/-- xs[:] = ys, by values -/
def gAll (to : TE) : TG := fun v σ H Q => to σ H fun x H1 => ∃ l b xs ys, x = .ref l ∧ v = .ref b ∧ l ≠ b ∧ H1 l = some (.lst xs) ∧ H1 b = some (.lst ys) ∧ xs.length + ys.length ≤ sizeLine ∧ Q σ (upd H1 l (.lst ys))
theorem pg_all {o : Expr} {to : TE} {p2 pos : Pos} (ho : PE X o to)
    (ha : ∀ v, assign (.Subscript o (.Slice none none none p2) pos) X.env v = (do
      let ov ← holding [v] (eval o X.env)
      let iv ← holding [v, ov] (eval (.Slice none none none p2) X.env)
      standAt pos
      holding [v, ov, iv] (setItem ov iv v)
      release [iv, v, ov] []) := by intro _; rfl) : PG X (.Subscript o (.Slice none none none p2) pos) (gAll to) := by
  refine ⟨fun pins s σ H v u Q I r h => ?_⟩
  rw [ha]
  refine wpAny_bind (wpAny_holding (thn (ho.run pins s σ H _ I h) fun ov s1 ⟨x, H1, I1, r1, l, b, xs, ys, ex, ev, hne, hl, hb, hz, q1⟩ => ?_))
  subst ex ev
  cases r1
  cases r
  refine wpAny_bind (wpAny_holding (wpAny_Slice ?_))
  rw [evalPart_none]
  refine wpAny_pure (wpAny_pure (wpAny_pure ?_))
  have I4 : Inv X pins σ H1 { s1 with heap := s1.heap.push { cls := .type "slice", data := .fields #[.none, .none, .none] } } := I1.kept (t' := s1.toks) fun b ob q => Heap.get?_push_of_some _ q
  obtain ⟨z1, its, n, r1, hl1, e1⟩ := I4.lstM hl
  obtain ⟨z2, its2, n2, r2, hl2, e2⟩ := I4.lstM hb
  refine wpAny_bind (wpAny_standAt (wpAny_bind (wpAny_holding ?_)))
  refine put_all_raw e1 e2 hne (Heap.IsSliceOf.new ..) (by rw [List.size_toArray, List.size_toArray]; omega) ?_
  refine wpAny_release ⟨σ, _, ?_, q1⟩
  refine I4.lset (its' := its2) (t' := s1.toks) hl e1 ?_ r2 (by omega)
  simp
end

/-! ### lists of ints that are the same -/
theorem dp_all {K : PySem.W.Frag} {H : Hp} : ∀ ns : List Int, DpAll K H (ns.map V.int) (ns.map PyData.int)
  | [] => .nil
  | _ :: r => .cons (.int _) (dp_all r)
theorem canlay_ints : ∀ ns : List Int, PyData.canLayAll0 (ns.map PyData.int) = true
  | [] => rfl
  | _ :: r => by
    show PyData.canLayAll0 (PyData.int _ :: r.map PyData.int) = true
    simp only [PyData.canLayAll0, PyData.canLay0, canlay_ints r, Bool.and_self]
theorem depth_ints : ∀ ns : List Int, PyData.depthAll (ns.map PyData.int) ≤ 63
  | [] => by simp [PyData.depthAll]
  | _ :: r => by
    have h := depth_ints r
    simp [PyData.depthAll, PyData.depth] at h ⊢
    exact h
theorem shaped_ints (ns : List Int) : SeqAt.shaped (.list (ns.map PyData.int)) = true := by
  unfold SeqAt.shaped
  rw [Bool.and_eq_true]
  refine ⟨?_, decide_eq_true ?_⟩
  · simp only [PyData.canLay0, canlay_ints]
  · have h := depth_ints ns
    simp only [PyData.depth] at h ⊢
    omega
theorem eqD_same {K : PySem.W.Frag} {H : Hp} {x y : V} {d : PyData} {Q : VK} (h1 : Dp K H x d) (h2 : Dp K H y d) (s : SeqAt.shaped d = true) (q : Q (.bl true) H) : rEqD K x y H Q :=
  ⟨d, d, h1, h2, s, s, by rw [SeqAt.eqv_refl d (SeqAt.canLay_of_shaped s)]; exact q⟩
theorem neD_same {K : PySem.W.Frag} {H : Hp} {x y : V} {d : PyData} {Q : VK} (h1 : Dp K H x d) (h2 : Dp K H y d) (s : SeqAt.shaped d = true) (q : Q (.bl false) H) : rNeD K x y H Q :=
  ⟨d, d, h1, h2, s, s, by rw [SeqAt.eqv_refl d (SeqAt.canLay_of_shaped s)]; exact q⟩
theorem dp_ints {K : PySem.W.Frag} {H : Hp} {a : Addr} {ns : List Int} (h : SqL K H a (ns.map V.int)) : Dp K H (.ref a) (.list (ns.map PyData.int)) := .lst h (dp_all ns)
theorem eqv_ints (ns : List Int) : PyData.eqv (.list (ns.map PyData.int)) (.list (ns.map PyData.int)) = true := SeqAt.eqv_refl _ (SeqAt.canLay_of_shaped (shaped_ints ns))

/-! ### ifs and tests whose answer is known -/
theorem ifNe {x y : Int} {A B : Prop} (e : x = y) (h : B) : if (!decide (V.int x = V.int y)) = true then A else B := by
  subst e
  rw [decide_eq_true rfl]
  exact h
theorem ifNeN {x y : Int} {A B : Prop} (e : ¬ x = y) (h : A) : if (!decide (V.int x = V.int y)) = true then A else B := by
  rw [decide_eq_false (fun z => e (V.int.inj z))]
  exact h
theorem eqT {x y : Int} (e : x = y) : decide (V.int x = V.int y) = true := decide_eq_true (congrArg V.int e)
theorem qT {x y : Int} {Q : VK} {H : Hp} (e : x = y) (h : Q (.bl true) H) : Q (.bl (decide (V.int x = V.int y))) H := by rw [eqT e]; exact h
theorem orV {t u : TE} {σ : L2.St} {H : Hp} {Q : VK} (b1 b2 : Bool) (h1 : ∀ Q, (∀ H', Same H H' → Q (.bl b1) H') → t σ H Q) (h2 : ∀ H' Q, Q (.bl b2) H' → u σ H' Q) (q : ∀ H', Same H H' → Q (.bl (b1 || b2)) H') : tOrV t u σ H Q := by
  refine h1 _ fun H' s => ⟨b1, rfl, ?_⟩
  cases b1 with
  | true => rw [if_pos rfl]; exact q _ s
  | false => rw [if_neg (by decide)]; exact h2 _ _ (q _ s)
theorem andV {t u : TE} {σ : L2.St} {H : Hp} {Q : VK} (b1 b2 : Bool) (h1 : ∀ Q, Q (.bl b1) H → t σ H Q) (h2 : ∀ Q, Q (.bl b2) H → u σ H Q) (q : Q (.bl (b1 && b2)) H) : tAndV t u σ H Q := by
  refine h1 _ ⟨b1, rfl, ?_⟩
  cases b1 with
  | true => rw [if_pos rfl]; exact h2 _ q
  | false => rw [if_neg (by decide)]; exact q
theorem orF {t u : TT} {σ : L2.St} {H : Hp} {Q : Bool → Hp → Prop} (h1 : ∀ Q, (∀ H', Same H H' → Q false H') → t σ H Q) (h2 : ∀ H', Same H H' → ∀ Q, (∀ H'', Same H' H'' → Q false H'') → u σ H' Q) (q : ∀ H', Same H H' → Q false H') : tOr t u σ H Q := by
  refine h1 _ fun H' s => ?_
  rw [if_neg (by decide)]
  exact h2 _ s _ fun H'' s' => q _ (s.trans s')
theorem neF {x y : Int} {Q : Bool → Hp → Prop} {H : Hp} (e : x = y) (h : Q false H) : Q (!decide (V.int x = V.int y)) H := by rw [eqT e]; exact h
theorem ifEq {x y : Int} {A B : Prop} (e : x = y) (h : A) : if decide (V.int x = V.int y) = true then A else B := by rw [eqT e]; exact h
theorem ifEqN {x y : Int} {A B : Prop} (e : ¬ x = y) (h : B) : if decide (V.int x = V.int y) = true then A else B := by
  rw [decide_eq_false (fun z => e (V.int.inj z))]; exact h
theorem ifS {x y : Str} {A B : Prop} (e : x = y) (h : A) : if decide (V.str x = V.str y) = true then A else B := by rw [if_pos (decide_eq_true (congrArg V.str e))]; exact h
theorem ifSN {x y : Str} {A B : Prop} (e : ¬ x = y) (h : B) : if decide (V.str x = V.str y) = true then A else B := by
  rw [if_neg (fun z => e (V.str.inj (of_decide_eq_true z)))]; exact h
theorem ifNeS {x y : Str} {A B : Prop} (e : x = y) (h : B) : if (!decide (V.str x = V.str y)) = true then A else B := by
  subst e
  rw [decide_eq_true rfl]
  exact h
theorem qTS {x y : Str} {Q : VK} {H : Hp} (e : x = y) (h : Q (.bl true) H) : Q (.bl (decide (V.str x = V.str y))) H := by rw [decide_eq_true (congrArg V.str e)]; exact h
theorem call_isiS {X : Cx} {a : Addr} {ps : List (Addr × Obj)} : CallR (X.suite a ps) (.builtin "isinstance") (rIsi X.K) := call_isi
theorem for_tupE {K : PySem.W.Frag} {a : Addr} {xs : List V} {g : TG} {tb : TS} {nx : L2.St → Hp → Prop} {rt : VK} {σ : L2.St} {H : Hp} (Pv : Nat → L2.St → Hp → Prop) (h0 : Pv 0 σ H) (hl : ∀ i σ H, i ≤ xs.length → Pv i σ H → SqT K H a xs)
    (hs : ∀ i x σ H, xs[i]? = some x → Pv i σ H → g x σ H fun σ2 H2 => tb { nx := Pv (i + 1), rt := rt, bk := nx, ct := Pv (i + 1) } σ2 H2) (hd : ∀ σ H, Pv xs.length σ H → nx σ H) :
    ∃ W : Nat → Nat → L2.St → Hp → Prop, (∃ m, W 0 m σ H) ∧ ∀ i m σ H, W i m σ H → ((Itt K a).stop i H ∧ nx σ H) ∨ ((Itt K a).go i H ∧ ∃ N : L2.St → Hp → Prop, (∀ σ' H', N σ' H' → ∃ m', m' < m ∧ W (i + 1) m' σ' H') ∧
      ∀ x H', (Itt K a).yld i H x H' → g x σ H' fun σ2 H2 => tb { nx := N, rt := rt, bk := nx, ct := N } σ2 H2) := for_tup (D := { nx := nx, rt := rt }) Pv h0 hl hs hd
theorem isi_bool {K : PySem.W.Frag} {H : Hp} {b : Bool} {Q : VK} (q : Q (.bl true) H) : rIsi K [.bl b, .ty "bool"] H Q := ⟨.bl b, .ty "bool", _, _, true, rfl, .ty _, .base (.bl _), kit_ty (by decide +kernel), q⟩
theorem ne_of_nd {x y : Int} (h : (!decide (V.int x = V.int y)) = true) : ¬ x = y := fun e => by
  rw [decide_eq_true (congrArg V.int e)] at h; cases h
theorem eq_of_nd {x y : Int} (h : ¬ (!decide (V.int x = V.int y)) = true) : x = y := by
  by_cases e : x = y
  · exact e
  · exact absurd (by rw [decide_eq_false (fun z => e (V.int.inj z))]; rfl) h
theorem eq_of_d {x y : Int} (h : decide (V.int x = V.int y) = true) : x = y := V.int.inj (of_decide_eq_true h)
theorem ne_of_d {x y : Int} (h : ¬ decide (V.int x = V.int y) = true) : ¬ x = y := fun e => h (decide_eq_true (congrArg V.int e))
theorem sign_of (d : Nat) : -1 ≤ ([1, -1] : List Int).getD d 0 ∧ ([1, -1] : List Int).getD d 0 ≤ 1 := by
  match d with
  | 0 => decide
  | 1 => decide
  | _ + 2 => exact (by decide : (-1 : Int) ≤ 0 ∧ (0 : Int) ≤ 1)
section
variable {X : Cx} {s : Shared} {H : Hp} {sc : Scope} {en : Env} {fp : List Addr}
theorem ix_listB : IxR (X.blk s H sc en fp) (L2.rIxL X.K) := ix_list
theorem ix_tupB : IxR (X.blk s H sc en fp) (L2.rIxT X.K) := ix_tup
theorem call_isiB : CallR (X.blk s H sc en fp) (.builtin "isinstance") (rIsi X.K) := call_isi
end
theorem andIf {t : TE} {σ : L2.St} {H : Hp} {Q : VK} {b1 b2 : Bool} (h : ∀ Q', Q' (.bl b2) H → t σ H Q') (q : Q (.bl (b1 && b2)) H) : if b1 = true then t σ H Q else Q (.bl false) H := by
  cases b1 with
  | true => exact h _ q
  | false => exact q
theorem op_eqDS {X : Cx} {a : Addr} {ps : List (Addr × Obj)} (hu : X.A.units + 64 < cLine) : OpR (X.suite a ps) (compareOp .Eq) (rEqD X.K) := op_eqD (X := X.suite a ps) hu
theorem isi_of {K : PySem.W.Frag} {H : Hp} {x : V} {n : String} {t : Value} {b : Bool} {Q : VK} (h : TyX K H x t) (k : PySem.W.kitOne K t (.type n) = some b) (q : Q (.bl b) H) : rIsi K [x, .ty n] H Q := ⟨x, .ty n, t, _, b, rfl, .ty _, h, k, q⟩

/-! ### lists of texts, heaps that grow -/
theorem newE {H H' : Hp} {p : Addr} {xs : List V} {zs : List Str} (h : H p = none) (e : upd H p (.lst xs) = H') (hx : xs = zs.map V.str) : Same H H' ∧ H' p = some (.lst (zs.map V.str)) := by
  subst e hx
  exact ⟨Same.new h, upd_same⟩
theorem at_strs {zs : List Str} {k : Nat} (h : k < zs.length) : ∃ z ∈ zs, atI (zs.map V.str) (k : Int) = some (.str z) :=
  ⟨zs[k], List.getElem_mem h, atI_nat (by rw [List.getElem?_map, List.getElem?_eq_getElem h]; rfl)⟩
theorem none_of {H H' : Hp} {p : Addr} (s : Same H H') (h : H' p = none) : H p = none := by
  cases e : H p with
  | none => rfl
  | some o => rw [s _ _ e] at h; cases h
theorem catE {H : Hp} {l b : Addr} {zs ys : List Str} {Q : VK} (hl : H l = some (.lst (zs.map V.str))) (hb : H b = some (.lst (ys.map V.str))) (hn : zs.length + ys.length ≤ 1000) (q : ∀ p H', Same H H' → H p = none → H' p = some (.lst ((zs ++ ys).map V.str)) → Q (.ref p) H') : rCat (.ref l) (.ref b) H Q :=
  ⟨l, b, _, _, rfl, rfl, hl, hb, by rw [List.length_map, List.length_map]; exact small64 (by omega), fun p hp => q p _ (Same.new hp) hp (by rw [upd_same, List.map_append])⟩
def LstS (H : Hp) (Q : VK) (zs : List Str) : Prop := ∀ p H', Same H H' → H p = none → H' p = some (.lst (zs.map V.str)) → Q (.ref p) H'
theorem lc_mapS {K : PySem.W.Frag} {a : Addr} {zs : List Str} {j : Nat} {te : TE} {σ : L2.St} {H1 : Hp} {D : Addr} {Qd : Hp → Prop} (f : Str → Str) (hD : H1 D = none) (hS : SqL K H1 a (zs.map V.str)) (hn : zs.length ≤ 100000)
    (hs : ∀ z H Q, z ∈ zs → Same H1 H → (∀ H', Same H H' → Q (.str (f z)) H') → te ((σ.set j none).set j (some (.str z))) H Q) (hd : ∀ H, Same H1 H → H D = some (.lst ((zs.map f).map V.str)) → Qd H) :
    ∃ W : Nat → Nat → Hp → Prop, (∃ m, W 0 m (upd H1 D (.lst []))) ∧ ∀ i m H, W i m H →
      ((Itl K a).stop i H ∧ Qd H) ∨ ((Itl K a).go i H ∧ ∃ Nx : Hp → Prop, (∀ H', Nx H' → ∃ m', m' < m ∧ W (i + 1) m' H') ∧ ∀ x H', (Itl K a).yld i H x H' → gName j x (wipe σ [j]) H' fun σ2 H2 => wipe σ2 [j] = wipe σ [j] ∧ tYes σ2 H2 fun b H3 =>
        if b = true then te σ2 H3 fun y H4 => ∃ acc, H4 D = some (.lst acc) ∧ acc.length < sizeLine ∧ Nx (upd H4 D (.lst (acc ++ [y]))) else Nx H3) := by
  refine lc_map (f := fun v => match v with | .str z => .str (f z) | v => v) hD hS (by rw [List.length_map]; exact hn) (fun x H2 Q2 hx s2 q2 => ?_) (fun H2 s2 hD2 => ?_)
  · obtain ⟨z, hz, rfl⟩ := List.mem_map.mp hx
    exact hs z H2 Q2 hz s2 q2
  · refine hd H2 s2 ?_
    rw [hD2, List.map_map, List.map_map]; rfl
theorem flat_strs : ∀ zs : List Str, (zs.map V.str).all flatV = true
  | [] => rfl
  | _ :: r => flat_strs r
theorem inV_mem (z : Str) (zs : List Str) : inV (.str z) (zs.map V.str) = true ↔ z ∈ zs := by
  unfold inV
  rw [List.any_map, List.any_eq_true]
  constructor
  · rintro ⟨y, hy, e⟩
    have e' : (y == z) = true := e
    rw [← eq_of_beq e']; exact hy
  · intro h
    exact ⟨z, h, (beq_self_eq_true z : (z == z) = true)⟩

/-- a name that the module binds to an int -/
theorem pe_gint {X : Cx} {x : Str} {p : Pos} {i : Int} (hg : Gl X x) (hm : ∃ t, X.mg x = some (.int i t)) (hdb : (x == ("__debug__" : Str)) = false := by decide) : PE X (.Name x p) (tC (.int i)) := by
  obtain ⟨t, h⟩ := hm
  exact pe_glob hg h ⟨t, rfl⟩ hdb

/-! ### a loop over zip of two -/
theorem sqT_same {K : PySem.W.Frag} {H H' : Hp} {a : Addr} {xs : List V} (e : Same H H') (h : SqT K H a xs) : SqT K H' a xs := by
  rcases h with (h | ⟨o, h⟩) | h
  · exact .inl (.inl (e _ _ h))
  · exact .inl (.inr ⟨o, e _ _ h⟩)
  · exact .inr h
theorem for_zipD {K : PySem.W.Frag} {a b : Addr} {xs ys : List V} {g : TG} {tb : TS} {nx : L2.St → Hp → Prop} {rt : VK} {σ : L2.St} {H : Hp} (hl : xs.length = ys.length) (Pv : Nat → L2.St → Hp → Prop) (h0 : Pv 0 σ H) (hq : ∀ i σ H, Pv i σ H → SqT K H a xs ∧ SqT K H b ys)
    (hs : ∀ (i : Nat) (x y : V) (T : Addr) (σ : L2.St) (H : Hp), xs[i]? = some x → ys[i]? = some y → Pv i σ H → H T = none → g (.ref T) σ (upd H T (.tup [x, y])) fun σ2 H2 => tb { nx := Pv (i + 1), rt := rt, bk := nx, ct := Pv (i + 1) } σ2 H2) (hd : ∀ σ H, Pv xs.length σ H → nx σ H) :
    ∃ W : Nat → Nat → L2.St → Hp → Prop, (∃ m, W 0 m σ H) ∧ ∀ i m σ H, W i m σ H → ((RZ.ItzT K a b).stop i H ∧ nx σ H) ∨ ((RZ.ItzT K a b).go i H ∧ ∃ N : L2.St → Hp → Prop, (∀ σ' H', N σ' H' → ∃ m', m' < m ∧ W (i + 1) m' σ' H') ∧
      ∀ x H', (RZ.ItzT K a b).yld i H x H' → g x σ H' fun σ2 H2 => tb { nx := N, rt := rt, bk := nx, ct := N } σ2 H2) := RZ.for_zipT (D := { nx := nx, rt := rt }) hl Pv h0 hq hs hd
/-! ### a comprehension over a range, whose items are drawn -/
theorem lc_anyR {n j : Nat} {te : TE} {σ : L2.St} {H1 : Hp} {D : Addr} {Qd : Hp → Prop} (φ : V → Prop) (hD : H1 D = none) (hn : n ≤ 100000)
    (hs : ∀ i H Q, i < n → Same H1 H → (∀ y H', φ y → Same H H' → Q y H') → te ((σ.set j none).set j (some (.int i))) H Q) (hd : ∀ xs H, xs.length = n → (∀ x ∈ xs, φ x) → Same H1 H → H D = some (.lst xs) → Qd H) :
    ∃ W : Nat → Nat → Hp → Prop, (∃ m, W 0 m (upd H1 D (.lst []))) ∧ ∀ i m H, W i m H →
      ((Itr 0 n).stop i H ∧ Qd H) ∨ ((Itr 0 n).go i H ∧ ∃ Nx : Hp → Prop, (∀ H', Nx H' → ∃ m', m' < m ∧ W (i + 1) m' H') ∧ ∀ x H', (Itr 0 n).yld i H x H' → gName j x (wipe σ [j]) H' fun σ2 H2 => wipe σ2 [j] = wipe σ [j] ∧ tYes σ2 H2 fun b H3 =>
        if b = true then te σ2 H3 fun y H4 => ∃ acc, H4 D = some (.lst acc) ∧ acc.length < sizeLine ∧ Nx (upd H4 D (.lst (acc ++ [y]))) else Nx H3) := by
  refine lc_range (fun i H => Same H1 H ∧ ∃ xs : List V, xs.length = i ∧ (∀ x ∈ xs, φ x) ∧ H D = some (.lst xs)) ⟨Same.new hD, [], rfl, (fun _ z => nomatch z), upd_same⟩ (fun i H hi h => ?_) (fun H h => by obtain ⟨s, xs, hl, hx, hk⟩ := h; exact hd xs H hl hx s hk)
  rw [Int.zero_add]
  obtain ⟨s, xs, hl, hx, hk⟩ := h
  refine ⟨?_, ?_⟩
  · show (((σ.set j none).set j (some (V.int i))).set j none) = σ.set j none
    rw [List.set_set, List.set_set]
  · simp only [tYes, if_true]
    refine hs i H _ hi s fun y H' hy s' => ?_
    refine ⟨_, s' _ _ hk, ?_, fun b o e => ?_, xs ++ [y], ?_, fun x hx' => ?_, upd_same⟩
    · exact small64' (by omega)
    · have nb : b ≠ D := fun z => by rw [z, hD] at e; cases e
      rw [upd_ne nb]; exact s' _ _ (s _ _ e)
    · rw [List.length_append, hl]; rfl
    · rcases List.mem_append.mp hx' with z | z
      · exact hx x z
      · rw [List.mem_singleton] at z; rw [z]; exact hy
theorem ints_of {ψ : Int → Prop} : ∀ {xs : List V}, (∀ x ∈ xs, ∃ n, x = .int n ∧ ψ n) → ∃ ns : List Int, xs = ns.map V.int ∧ ∀ n ∈ ns, ψ n
  | [], _ => ⟨[], rfl, fun _ z => nomatch z⟩
  | x :: r, h => by
    obtain ⟨n, rfl, hn⟩ := h x (List.mem_cons_self ..)
    obtain ⟨ns, rfl, hns⟩ := ints_of fun y hy => h y (List.mem_cons_of_mem _ hy)
    refine ⟨n :: ns, rfl, fun m hm => ?_⟩
    rcases List.mem_cons.mp hm with e | hm
    · rw [e]; exact hn
    · exact hns m hm
theorem strs_of {ψ : Str → Prop} : ∀ {xs : List V}, (∀ x ∈ xs, ∃ z, x = .str z ∧ ψ z) → ∃ zs : List Str, xs = zs.map V.str ∧ ∀ z ∈ zs, ψ z
  | [], _ => ⟨[], rfl, fun _ z => nomatch z⟩
  | x :: r, h => by
    obtain ⟨n, rfl, hn⟩ := h x (List.mem_cons_self ..)
    obtain ⟨ns, rfl, hns⟩ := strs_of fun y hy => h y (List.mem_cons_of_mem _ hy)
    refine ⟨n :: ns, rfl, fun m hm => ?_⟩
    rcases List.mem_cons.mp hm with e | hm
    · rw [e]; exact hn
    · exact hns m hm

/-! ### a tape of numbers made from the script, and draws from it -/
def Nn (ts : List Int) : Prop := ∀ x ∈ ts, 0 ≤ x
theorem nn_nil : Nn [] := fun _ h => nomatch h
theorem Nn.snoc {ts : List Int} (h : Nn ts) {x : Int} (hx : 0 ≤ x) : Nn (ts ++ [x]) := fun y hy => by
  rcases List.mem_append.mp hy with hy | hy
  · exact h y hy
  · rw [List.mem_singleton] at hy; omega
def LstT (H : Hp) (Q : VK) (xs : List Int) : Prop := ∀ p H', Same H H' → H p = none → H' p = some (.lst (xs.map V.int)) → Q (.ref p) H'
def sp__law_tape (K : PySem.W.Frag) (cs : Cs) : Sp := fun vs H Q _ => ∃ (a : Addr) (ns : List Int), vs = [.ref a] ∧ SqL K H a (ns.map V.int) ∧ ns.length ≤ 63 ∧ ∀ ts : List Int, Nn ts → ts.length ≤ 2520 → LstT H Q ts
def sp__law_draw (K : PySem.W.Frag) (cs : Cs) : Sp := fun vs H Q _ => ∃ (a : Addr) (ts : List Int) (p : Int) (m : Int), vs = [.ref a, .int p, .int m] ∧ SqL K H a (ts.map V.int) ∧ (0 ≤ p ∧ p ≤ 1000000) ∧ 0 < m ∧ ∀ v : Int, 0 ≤ v → v < m → Q (.int v) H
section
variable {P : Program} {w : World} {K : PySem.W.Frag} {mg : Str → Option Value} {base : Heap} {cs : Cs}
theorem c__law_tape (D : Def K mg "_law_tape" s__law_tape ["script"]) (T : Tp w K mg cs)  : Cal P w K mg base CX0 1 "_law_tape" (sp__law_tape K cs) := by
  refine D.ok sc__law_tape (fun vs H Q E h => ?_) (fun f cdv A outer s H vs Q E hr h => ?_)
  · obtain ⟨a, ns, rfl, _⟩ := h; rfl
  · obtain ⟨a, ns, rfl, hS, hlen, q⟩ := h
    refine ⟨_, (pss_cons (ps_set (i := 1) sc__law_tape.nd rfl (by first | exact Or.inl rfl | exact Or.inr rfl) (pe_lst pa_nil))
      (pss_cons (ps_for PassesOwn.never rfl (pi_list (pv 0)) (pg_name (i := 2) sc__law_tape.nd rfl (by first | exact Or.inl rfl | exact Or.inr rfl)) (pss_cons (ps_set (i := 3) sc__law_tape.nd rfl (by first | exact Or.inl rfl | exact Or.inr rfl) (pe_op op_mul pe_int (pe_callTy call_int1 (by rfl) T.m_int (by decide +kernel) (pa_cons (pv 2) pa_nil))))
      (C8.pss_cut (ps_if (pt_cmpR op_lt (pv 3) pe_int (by first | rfl | exact nomark _)) (pss_one (ps_set (i := 3) sc__law_tape.nd rfl (by first | exact Or.inl rfl | exact Or.inr rfl) (pe_op op_sub (pe_un un_neg pe_int) (pv 3)))) pss_nil)
      (pss_one (ps_if (pt_cmpR op_ge (pv 3) (pe_op op_pow pe_int pe_int) (by first | rfl | exact nomark _)) (pss_one (ps_for PassesOwn.never rfl (pi_range1 (by rfl) T.m_range (pa_cons pe_int pa_nil)) (pg_name (i := 4) sc__law_tape.nd rfl (by first | exact Or.inl rfl | exact Or.inr rfl)) (pss_one (ps_if (pt_cmpR op_gt (pv 3) pe_int (by first | rfl | exact nomark _)) (pss_cons (ps_expr (pe_bm PySem.F.plainAttrs_list PySem.F.slot_list_append PySem.F.type_list_append mt_append (pv 1) (pa_cons (pe_op op_mod (pe_callTy call_int1 (by rfl) T.m_int (by decide +kernel) (pa_cons (pv 3) pa_nil)) pe_int) pa_nil)))
      (pss_one (ps_set (i := 3) sc__law_tape.nd rfl (by first | exact Or.inl rfl | exact Or.inr rfl) (pe_op op_fdiv (pv 3) pe_int)))) pss_nil)))) (pss_one (ps_for PassesOwn.never rfl (pi_range1 (by rfl) T.m_range (pa_cons pe_int pa_nil)) (pg_name (i := 4) sc__law_tape.nd rfl (by first | exact Or.inl rfl | exact Or.inr rfl)) (pss_cons (ps_set (i := 5) sc__law_tape.nd rfl (by first | exact Or.inl rfl | exact Or.inr rfl) (pe_op op_mod (pe_callTy call_int1 (by rfl) T.m_int (by decide +kernel) (pa_cons (pe_op op_add (pe_op op_add (pe_op op_mul (pv 3) pe_int) (pe_op op_mul (pv 4) pe_int)) pe_int) pa_nil)) pe_int))
      (pss_one (ps_expr (pe_bm PySem.F.plainAttrs_list PySem.F.slot_list_append PySem.F.type_list_append mt_append (pv 1) (pa_cons (pe_op op_mod (pe_callTy call_int1 (by rfl) T.m_int (by decide +kernel) (pa_cons (pe_op op_add (pe_op op_mul (pv 5) pe_int) (pe_op op_fdiv (pv 5) pe_int)) pa_nil)) pe_int) pa_nil))))))))))))
      (pss_one (ps_ret (pv 1))))), ?_⟩
    walk_at "go"
    intro p hp
    generalize e1 : upd H p (.lst []) = H1
    obtain ⟨s1, k1⟩ : Same H H1 ∧ H1 p = some (.lst (([] : List Int).map V.int)) := by subst e1; exact ⟨Same.new hp, upd_same⟩
    refine ⟨_, rfl, a, rfl, ⟨_, s1.seq hS⟩, for_listD (xs := ns.map V.int) (fun i σ H2 => ∃ (ts : List Int) (o2 o3 o4 o5 : Option V), σ = [some (.ref a), some (.ref p), o2, o3, o4, o5] ∧ Nn ts ∧ ts.length ≤ 40 * i ∧ Same H H2 ∧ H2 p = some (.lst (ts.map V.int)))
      ⟨[], _, _, _, _, rfl, nn_nil, Nat.le_refl _, s1, k1⟩ (fun i σ H2 _ h => by obtain ⟨ts, o2, o3, o4, o5, _, _, _, s2, _⟩ := h; exact s2.seq hS) ?_ ?_⟩
    · rintro i x _ H2 hx ⟨ts, o2, o3, o4, o5, rfl, hN, hl, s2, k2⟩
      obtain ⟨n, rfl⟩ : ∃ n, x = .int n := by
        rw [List.getElem?_map] at hx
        cases e : ns[i]? with
        | none => rw [e] at hx; cases hx
        | some k => rw [e] at hx; cases hx; exact ⟨k, rfl⟩
      have hi : i < ns.length := by
        have := (List.getElem?_eq_some_iff.mp hx).1
        rw [List.length_map] at this; exact this
      walk_at "go"
      refine ⟨fun σ H3 => H2 = H3 ∧ ∃ m : Int, 0 ≤ m ∧ σ = [some (.ref a), some (.ref p), some (.int n), some (.int m), o4, o5], ?_, ?_⟩
      · walk_at "go"
        refine ite2 (fun c => ?_) (fun c => ?_)
        · have c' : 2 * n < 0 := of_decide_eq_true c
          walk_at "go"
          exact ⟨_, by omega, rfl⟩
        · have c' : ¬ 2 * n < 0 := of_decide_eq_false (Bool.eq_false_iff.mpr c)
          exact ⟨rfl, _, by omega, rfl⟩
      rintro _ _ ⟨rfl, m, hm, rfl⟩
      walk_at "go"
      refine ite2 (fun c => ?_) (fun c => ?_)
      · refine ⟨_, rfl, by decide, by decide, for_rangeD (lo := 0) (n := 40) (fun j σ H3 => ∃ (ts' : List Int) (m' : Int) (o : Option V), σ = [some (.ref a), some (.ref p), some (.int n), some (.int m'), o, o5] ∧ Nn ts' ∧ ts'.length ≤ 40 * i + j ∧ Same H H3 ∧ H3 p = some (.lst (ts'.map V.int)))
          ⟨ts, m, _, rfl, hN, by omega, s2, k2⟩ ?_ ?_⟩
        · rintro j _ H3 hj ⟨ts', m', o, rfl, hN', hl', s3, k3⟩
          walk_at "go"
          refine ite2 (fun c => ?_) (fun c => ?_)
          · refine ⟨_, rfl, .inl ⟨rfl, _, SqL.of k3⟩, ?_⟩
            walk_at "go"
            refine ⟨_, _, _, rfl, rfl, k3, (by rw [List.length_map]; exact small64' (by omega)), ?_⟩
            walk_at "go"
            refine ⟨ts' ++ [m' % 1000], _, _, rfl, hN'.snoc (by omega), by rw [List.length_append, List.length_singleton]; omega, fun b o e => ?_, ?_⟩
            · rw [upd_ne (ne_of_none e hp)]; exact s3 _ _ e
            · rw [upd_same, List.map_append]; rfl
          · exact ⟨ts', m', _, rfl, hN', by omega, s3, k3⟩
        · rintro _ H3 ⟨ts', m', o, rfl, hN', hl', s3, k3⟩
          exact ⟨ts', _, _, _, _, rfl, hN', by omega, s3, k3⟩
      · refine ⟨_, rfl, by decide, by decide, for_rangeD (lo := 0) (n := 3) (fun j σ H3 => ∃ (ts' : List Int) (o o' : Option V), σ = [some (.ref a), some (.ref p), some (.int n), some (.int m), o, o'] ∧ Nn ts' ∧ ts'.length ≤ 40 * i + j ∧ Same H H3 ∧ H3 p = some (.lst (ts'.map V.int)))
          ⟨ts, _, _, rfl, hN, by omega, s2, k2⟩ ?_ ?_⟩
        · rintro j _ H3 hj ⟨ts', o, o', rfl, hN', hl', s3, k3⟩
          walk_at "go"
          refine ⟨.inl ⟨rfl, _, SqL.of k3⟩, ?_⟩
          walk_at "go"
          generalize (m * 48271 + (0 + (j : Int)) * 40503 + 11) % 2147483629 = fi
          refine ⟨_, _, _, rfl, rfl, k3, (by rw [List.length_map]; exact small64' (by omega)), ?_⟩
          walk_at "go"
          refine ⟨ts' ++ [(fi * 69621 + fi / 65536) % 2147483629], _, _, rfl, hN'.snoc (by omega), by rw [List.length_append, List.length_singleton]; omega, fun b o e => ?_, ?_⟩
          · rw [upd_ne (ne_of_none e hp)]; exact s3 _ _ e
          · rw [upd_same, List.map_append]; rfl
        · rintro _ H3 ⟨ts', o, o', rfl, hN', hl', s3, k3⟩
          exact ⟨ts', _, _, _, _, rfl, hN', by omega, s3, k3⟩
    · rintro _ H2 ⟨ts, o2, o3, o4, o5, rfl, hN, hl, s2, k2⟩
      rw [List.length_map] at hl
      walk_at "go"
      exact q ts hN (by omega) p H2 s2 hp k2
theorem c__law_draw (D : Def K mg "_law_draw" s__law_draw ["tape", "at", "many"]) (T : Tp w K mg cs)  : Cal P w K mg base CX0 1 "_law_draw" (sp__law_draw K cs) := by
  refine D.ok sc__law_draw (fun vs H Q E h => ?_) (fun f cdv A outer s H vs Q E hr h => ?_)
  · obtain ⟨a, ts, p, m, rfl, _⟩ := h; rfl
  · obtain ⟨a, ts, p, m, rfl, hS, ⟨hp0, hp⟩, hm, q⟩ := h
    obtain ⟨p, rfl⟩ := Int.eq_ofNat_of_zero_le hp0
    refine ⟨_, (pss_cons (ps_if (pt_cmpR op_lt (pv 1) (pe_callB call_len_seq (by rfl) T.m_len PySem.boot_len (pa_cons (pv 0) pa_nil)) (by first | rfl | exact nomark _)) (pss_one (ps_ret (pe_op op_mod (pe_callTy call_int1 (by rfl) T.m_int (by decide +kernel) (pa_cons (pe_ix ix_list (pv 0) (pv 1) (fun _ _ => rfl)) pa_nil)) (pv 2)))) pss_nil)
      (pss_cons (ps_set (i := 3) sc__law_draw.nd rfl (by first | exact Or.inl rfl | exact Or.inr rfl) pe_int)
      (C8.pss_cut (ps_if (pt_cmpR op_gt (pe_callB call_len_seq (by rfl) T.m_len PySem.boot_len (pa_cons (pv 0) pa_nil)) pe_int (by first | rfl | exact nomark _)) (pss_one (ps_set (i := 3) sc__law_draw.nd rfl (by first | exact Or.inl rfl | exact Or.inr rfl) (pe_ix ix_list (pv 0) (pe_op op_mod (pe_callTy call_int1 (by rfl) T.m_int (by decide +kernel) (pa_cons (pv 1) pa_nil)) (pe_callB call_len_seq (by rfl) T.m_len PySem.boot_len (pa_cons (pv 0) pa_nil))) (fun _ _ => rfl)))) pss_nil)
      (pss_one (ps_ret (pe_op op_mod (pe_op op_mod (pe_callTy call_int1 (by rfl) T.m_int (by decide +kernel) (pa_cons (pe_op op_add (pe_op op_mul (pe_op op_mul (pe_op op_add (pv 3) (pv 1)) (pe_op op_add (pv 1) pe_int)) pe_int) (pe_op op_mul (pv 1) pe_int)) pa_nil)) pe_int) (pv 2))))))), ?_⟩
    walk_at "go"
    simp only [List.length_map]
    refine ite2 (fun c => ?_) (fun c => ?_)
    · have c' : (p : Int) < ts.length := of_decide_eq_true c
      walk_at "go"
      exact q _ (Int.emod_nonneg _ (by omega)) (Int.emod_lt_of_pos _ hm)
    · walk_at "go"
      refine ⟨fun σ H2 => H = H2 ∧ ∃ n : Int, σ = [some (.ref a), some (.int p), some (.int m), some (.int n)], ?_, ?_⟩
      · walk_at "go"
        simp only [List.length_map]
        refine ite2 (fun c => ?_) (fun c => ?_)
        · have c' : (0 : Int) < ts.length := of_decide_eq_true c
          obtain ⟨k, ek, hk⟩ : ∃ k : Nat, (p : Int) % (ts.length : Int) = (k : Int) ∧ k < ts.length := ⟨p % ts.length, by omega, Nat.mod_lt _ (by omega)⟩
          walk_at "go"
          simp only [List.length_map, ek]
          refine ⟨by show (0 : Int) < ts.length; omega, ?_⟩
          walk_at "go"
          exact ⟨_, rfl⟩
        · exact ⟨rfl, _, rfl⟩
      rintro _ _ ⟨rfl, n, rfl⟩
      walk_at "go"
      exact q _ (Int.emod_nonneg _ (by omega)) (Int.emod_lt_of_pos _ hm)
end

/-! ### rows of names -/
structure Row where
  m : Str
  n : Str
  k : Str
  i : Int
def rowV (r : Row) : List V := [.str r.m, .str r.n, .str r.k, .int r.i]
def Ok1 (z : Str) : Prop := PyData.strOk z = true
def RowOk (r : Row) : Prop := Ok1 r.m ∧ Ok1 r.n
def kd (r : Row) : Str × Str := (r.m, r.n)
abbrev AR := Addr × Row
def rf (rs : List AR) : List V := rs.map fun x => V.ref x.1
theorem rf_at {rs : List AR} {i : Nat} {x : V} (h : (rf rs)[i]? = some x) : ∃ r : AR, rs[i]? = some r ∧ r ∈ rs ∧ x = .ref r.1 := by
  unfold rf at h
  rw [List.getElem?_map] at h
  cases e : rs[i]? with
  | none => rw [e] at h; cases h
  | some b => rw [e] at h; cases h; exact ⟨b, rfl, List.mem_of_getElem? e, rfl⟩
theorem rf_snoc (rs : List AR) (y : AR) : rf rs ++ [V.ref y.1] = rf (rs ++ [y]) := by unfold rf; rw [List.map_append]; rfl
theorem rf_len (rs : List AR) : (rf rs).length = rs.length := List.length_map ..
/-- a list of rows -/
def RL (K : PySem.W.Frag) (H : Hp) (a : Addr) (rs : List AR) : Prop := SqL K H a (rf rs) ∧ ∀ x ∈ rs, SqT K H x.1 (rowV x.2) ∧ RowOk x.2
theorem RL.same {K : PySem.W.Frag} {H H' : Hp} {a : Addr} {rs : List AR} (s : Same H H') (h : RL K H a rs) : RL K H' a rs := ⟨s.seq h.1, fun x hx => ⟨sqT_same s (h.2 x hx).1, (h.2 x hx).2⟩⟩
def putA (acc : List AR) (y : AR) : List AR := acc.filter (fun x => !decide (kd x.2 = kd y.2)) ++ [y]
def putR (acc : List Row) (y : Row) : List Row := acc.filter (fun x => !decide (kd x = kd y)) ++ [y]
theorem putA_snd (acc : List AR) (y : AR) : (putA acc y).map (·.2) = putR (acc.map (·.2)) y.2 := by
  unfold putA putR
  rw [List.map_append, List.filter_map]
  rfl
theorem putAs_snd : ∀ (ys acc : List AR), (ys.foldl putA acc).map (·.2) = (ys.map (·.2)).foldl putR (acc.map (·.2))
  | [], _ => rfl
  | y :: r, acc => by
    show (r.foldl putA (putA acc y)).map (·.2) = _
    rw [putAs_snd r, putA_snd]; rfl
theorem putA_len (acc : List AR) (y : AR) : (putA acc y).length ≤ acc.length + 1 := by
  unfold putA
  rw [List.length_append, List.length_singleton]
  have := List.length_filter_le (fun x : AR => !decide (kd x.2 = kd y.2)) acc
  omega
theorem putA_mem {acc : List AR} {x y : AR} (h : x ∈ putA acc y) : x ∈ acc ∨ x = y := by
  rcases List.mem_append.mp h with h | h
  · exact .inl (List.mem_filter.mp h).1
  · exact .inr (List.mem_singleton.mp h)
theorem putAs_len : ∀ (ys acc : List AR), (ys.foldl putA acc).length ≤ acc.length + ys.length
  | [], _ => Nat.le_refl _
  | y :: r, acc => by
    have h1 := putAs_len r (putA acc y)
    have h2 := putA_len acc y
    show (r.foldl putA (putA acc y)).length ≤ acc.length + (r.length + 1)
    omega
theorem putAs_all {K : PySem.W.Frag} {H : Hp} : ∀ (ys acc : List AR), (∀ x ∈ acc, SqT K H x.1 (rowV x.2) ∧ RowOk x.2) → (∀ x ∈ ys, SqT K H x.1 (rowV x.2) ∧ RowOk x.2) → ∀ x ∈ ys.foldl putA acc, SqT K H x.1 (rowV x.2) ∧ RowOk x.2
  | [], _, h, _ => h
  | y :: r, acc, h, g => putAs_all r (putA acc y) (fun x hx => (putA_mem hx).elim (h x) fun e => e ▸ g y (List.mem_cons_self ..)) fun x hx => g x (List.mem_cons_of_mem _ hx)
/-- two pairs of texts -/
theorem dp_two {K : PySem.W.Frag} {H : Hp} {a : Addr} {x y : Str} (h : SqT K H a [.str x, .str y]) : Dp K H (.ref a) (.tuple [.str x, .str y]) := .tup h (.cons (.str _) (.cons (.str _) .nil))
theorem shaped_two {x y : Str} (hx : Ok1 x) (hy : Ok1 y) : SeqAt.shaped (.tuple [.str x, .str y]) = true := by
  unfold SeqAt.shaped
  rw [Bool.and_eq_true]
  refine ⟨?_, decide_eq_true ?_⟩
  · simp only [PyData.canLay0, PyData.canLayAll0, show PyData.strOk x = true from hx, show PyData.strOk y = true from hy, Bool.and_self]
  · simp [PyData.depth, PyData.depthAll]
theorem eqv_two (x y u v : Str) : PyData.eqv (.tuple [.str x, .str y]) (.tuple [.str u, .str v]) = decide ((x, y) = (u, v)) := by
  rw [Bool.eq_iff_iff]
  simp [PyData.eqv, PyData.eqvAll]
theorem eqD_two {K : PySem.W.Frag} {H : Hp} {a b : Addr} {x y u v : Str} {Q : VK} (ha : SqT K H a [.str x, .str y]) (hb : SqT K H b [.str u, .str v]) (hx : Ok1 x) (hy : Ok1 y) (hu : Ok1 u) (hv : Ok1 v) (q : Q (.bl (decide ((x, y) = (u, v)))) H) : rEqD K (.ref a) (.ref b) H Q :=
  ⟨_, _, dp_two ha, dp_two hb, shaped_two hx hy, shaped_two hu hv, by rw [eqv_two]; exact q⟩
theorem neD_two {K : PySem.W.Frag} {H : Hp} {a b : Addr} {x y u v : Str} {Q : VK} (ha : SqT K H a [.str x, .str y]) (hb : SqT K H b [.str u, .str v]) (hx : Ok1 x) (hy : Ok1 y) (hu : Ok1 u) (hv : Ok1 v) (q : Q (.bl (!decide ((x, y) = (u, v)))) H) : rNeD K (.ref a) (.ref b) H Q :=
  ⟨_, _, dp_two ha, dp_two hb, shaped_two hx hy, shaped_two hu hv, by rw [eqv_two]; exact q⟩
theorem cut_row2 (r : Row) : cutV (rowV r) none (some 2) = [.str r.m, .str r.n] := rfl
theorem cut_rest2 (r : Row) : cutV (rowV r) (some 2) none = [.str r.k, .int r.i] := rfl
theorem cut_rest1 (r : Row) : cutV (rowV r) (some 1) none = [.str r.n, .str r.k, .int r.i] := rfl
/-- the last row of a name (names stand once at the most) -/
def find1 (rs : List Row) (m n : Str) : Option Row := rs.find? fun r => decide (kd r = (m, n))
theorem find_step {rs : List AR} {i : Nat} {r : AR} {m n : Str} (h : rs[i]? = some r) (hf : find1 ((rs.take i).map (·.2)) m n = none) : (kd r.2 = (m, n) → find1 (rs.map (·.2)) m n = some r.2) ∧ (¬ kd r.2 = (m, n) → find1 ((rs.take (i + 1)).map (·.2)) m n = none) := by
  constructor
  · intro e
    have hi : i < rs.length := (List.getElem?_eq_some_iff.mp h).1
    have ei : rs[i] = r := (List.getElem?_eq_some_iff.mp h).2
    have es : rs = rs.take i ++ r :: rs.drop (i + 1) := by
      conv => lhs; rw [← List.take_append_drop i rs, List.drop_eq_getElem_cons hi, ei]
    rw [es, List.map_append]
    unfold find1 at hf ⊢
    rw [List.find?_append, hf, Option.none_or]
    show List.find? _ (r.2 :: List.map (·.2) (rs.drop (i + 1))) = _
    rw [List.find?_cons_of_pos (by exact decide_eq_true e)]
  · intro e
    rw [List.take_add_one, h, List.map_append]
    unfold find1 at hf ⊢
    rw [List.find?_append, hf, Option.none_or]
    show List.find? _ [r.2] = _
    rw [List.find?_cons_of_neg (by rw [decide_eq_false e]; decide)]; rfl
def sp_lookup (K : PySem.W.Frag) (cs : Cs) : Sp := fun vs H Q _ => ∃ (a : Addr) (m n : Str) (rs : List AR), vs = [.ref a, .str m, .str n] ∧ RL K H a rs ∧ Ok1 m ∧ Ok1 n ∧ rs.length ≤ 1000 ∧
  (find1 (rs.map (·.2)) m n = none → ∀ H', Same H H' → Q .non H') ∧ (∀ r, find1 (rs.map (·.2)) m n = some r → ∀ p H', Same H H' → H' p = some (.tup [.str r.k, .int r.i]) → Q (.ref p) H')
def LstR (K : PySem.W.Frag) (H : Hp) (Q : VK) (rs : List AR) : Prop := ∀ p H', Same H H' → H p = none → H' p = some (.lst (rf rs)) → Q (.ref p) H'
def sp_with_names (K : PySem.W.Frag) (cs : Cs) : Sp := fun vs H Q _ => ∃ (a b : Addr) (xs ys : List AR), vs = [.ref a, .ref b] ∧ RL K H a xs ∧ RL K H b ys ∧ xs.length ≤ 100 ∧ ys.length ≤ 100 ∧ LstR K H Q (ys.foldl putA xs)
/-- the list is full: the error flies, all stands -/
def Ful (cs : Cs) (H : Hp) (E : XK) : Prop := ∀ d Hf, Same H Hf → Hf d = some (.xd [("what", .str "names")]) → E (.ref cs.C_LimitReached) (some d) Hf
def sp_put_names (K : PySem.W.Frag) (cs : Cs) : Sp := fun vs H Q E => ∃ (a b : Addr) (xs ys : List AR), vs = [.ref a, .ref b] ∧ H a = some (.lst (rf xs)) ∧ (∀ x ∈ xs, SqT K H x.1 (rowV x.2) ∧ RowOk x.2) ∧ RL K H b ys ∧ xs.length ≤ 100 ∧ ys.length ≤ 100 ∧
  (60 < (ys.foldl putA xs).length → Ful cs H E) ∧ ((ys.foldl putA xs).length ≤ 60 → ∀ H', (∀ c o, c ≠ a → H c = some o → H' c = some o) → H' a = some (.lst (rf (ys.foldl putA xs))) → Q .non H')
/-- the names of a host: a list that is changed in its place -/
def RN (K : PySem.W.Frag) (H : Hp) (a : Addr) (xs : List AR) : Prop := H a = some (.lst (rf xs)) ∧ ∀ x ∈ xs, SqT K H x.1 (rowV x.2) ∧ RowOk x.2
theorem sqT_but {K : PySem.W.Frag} {H H' : Hp} {a p : Addr} {l xs : List V} (ha : H a = some (.lst l)) (h : ∀ c o, c ≠ a → H c = some o → H' c = some o) (t : SqT K H p xs) : SqT K H' p xs := by
  rcases t with (t | ⟨o, t⟩) | t
  · exact .inl (.inl (h _ _ (fun z => by rw [z, ha] at t; cases t) t))
  · exact .inl (.inr ⟨o, h _ _ (fun z => by rw [z, ha] at t; cases t) t⟩)
  · exact .inr t
def rowsOf (xs : List AR) : List Row := xs.map (·.2)
def Put (K : PySem.W.Frag) (cs : Cs) (H : Hp) (Q : VK) (E : XK) (a : Addr) (xs : List AR) (new : List Row) : Prop := (60 < (new.foldl putR (rowsOf xs)).length → Ful cs H E) ∧
  ((new.foldl putR (rowsOf xs)).length ≤ 60 → ∀ zs H', rowsOf zs = new.foldl putR (rowsOf xs) → (∀ c o, c ≠ a → H c = some o → H' c = some o) → RN K H' a zs → Q .non H')
theorem Put.use {K : PySem.W.Frag} {cs : Cs} {H H1 : Hp} {Q : VK} {E : XK} {a : Addr} {xs ys : List AR} (hN : RN K H1 a xs) (hY : ∀ x ∈ ys, SqT K H1 x.1 (rowV x.2) ∧ RowOk x.2) (s : Same H H1) (q : Put K cs H Q E a xs (rowsOf ys)) :
    (60 < (ys.foldl putA xs).length → Ful cs H1 E) ∧ ((ys.foldl putA xs).length ≤ 60 → ∀ H', (∀ c o, c ≠ a → H1 c = some o → H' c = some o) → H' a = some (.lst (rf (ys.foldl putA xs))) → Q .non H') := by
  have e : rowsOf (ys.foldl putA xs) = (rowsOf ys).foldl putR (rowsOf xs) := putAs_snd ys xs
  have el : (ys.foldl putA xs).length = ((rowsOf ys).foldl putR (rowsOf xs)).length := by rw [← e]; exact (List.length_map ..).symm
  rw [el]
  refine ⟨fun h d Hf s' k => q.1 h d Hf (s.trans s') k, fun h H' sb k => q.2 h _ H' e (fun c o n z => sb c o n (s _ _ z)) ⟨k, fun x hx => ?_⟩⟩
  have := putAs_all ys xs hN.2 hY x hx
  exact ⟨sqT_but hN.1 sb this.1, this.2⟩
def sp_put_name (K : PySem.W.Frag) (cs : Cs) : Sp := fun vs H Q E => ∃ (a : Addr) (xs : List AR) (r : Row), vs = [.ref a, .str r.m, .str r.n, .str r.k, .int r.i] ∧ RN K H a xs ∧ xs.length ≤ 100 ∧ RowOk r ∧ Put K cs H Q E a xs [r]
def tailV (r : Row) : List V := [.str r.n, .str r.k, .int r.i]
def sp_publish_items (K : PySem.W.Frag) (cs : Cs) : Sp := fun vs H Q E => ∃ (a b : Addr) (m : Str) (xs ys : List AR), vs = [.ref a, .str m, .ref b] ∧ RN K H a xs ∧ xs.length ≤ 100 ∧ ys.length ≤ 100 ∧ SqL K H b (rf ys) ∧ (∀ y ∈ ys, SqT K H y.1 (tailV y.2) ∧ RowOk y.2 ∧ y.2.m = m) ∧ Put K cs H Q E a xs (rowsOf ys)
theorem fold_rep1 (c : Nat) : ∀ (n : Nat) (acc : Array Nat), (List.replicate n (#[c] : Array Nat)).foldl (· ++ ·) acc = acc ++ (List.replicate n c).toArray
  | 0, acc => by simp
  | n + 1, acc => by
    rw [List.replicate_succ, List.foldl_cons, fold_rep1 c n, List.replicate_succ]
    apply Array.ext'
    simp
theorem op_mulS1 {X : Cx} : OpR X (binaryOp .Mult) (fun x y H Q => ∃ (c : Nat) (k : Int), x = .str ⟨#[c]⟩ ∧ y = .int k ∧ 2 ≤ k ∧ k ≤ 1000 ∧ Q (.str ⟨(List.replicate k.toNat c).toArray⟩) H) := by
  intro pins s σ H x y v u Q I rx ry h
  obtain ⟨c, k, rfl, rfl, h1, h2, q⟩ := h
  obtain ⟨t, rfl⟩ := rx
  obtain ⟨t', rfl⟩ := ry
  have hl : (⟨#[c]⟩ : Str).length = 1 := rfl
  refine PySem.P.mul_str (by rw [decide_eq_false (by omega), decide_eq_false (by omega)]; rfl) (fun _ _ => ?_) (fun _ _ => ?_) ?_
  · rw [hl]
    have : 1 ≤ (2 ^ 63 - 1) / k := (Int.le_ediv_iff_mul_le (by omega)).mpr (by omega)
    omega
  · rw [hl]
    unfold Builtin.Str.tooLong
    exact decide_eq_false (Nat.not_lt.mpr (small64 (by omega)))
  · rw [if_neg (by omega), if_neg (by rw [hl, beq_eq_false_iff_ne.mpr (show k ≠ 1 by omega)]; decide), fold_rep1]
    have e : (#[] : Array Nat) ++ (List.replicate k.toNat c).toArray = (List.replicate k.toNat c).toArray := by simp
    rw [e]
    refine ⟨?_, .str _, H, I.tok _, ⟨_, rfl⟩, q⟩
    show (List.replicate k.toNat c).toArray.size ≤ sizeLine
    rw [List.size_toArray, List.length_replicate]
    exact small64 (by omega)
theorem ok_add {a b : Str} (ha : Ok1 a) (hb : Ok1 b) : Ok1 (a ++ b) := by
  unfold Ok1 PyData.strOk at *
  show (a.cps ++ b.cps).all _ = true
  rw [Array.all_append, ha, hb]; rfl
theorem ok_rep {c n : Nat} (h : c < 128) : Ok1 ⟨(List.replicate n c).toArray⟩ := by
  unfold Ok1 PyData.strOk
  rw [List.all_toArray, List.all_eq_true]
  intro x hx
  rw [(List.mem_replicate.mp hx).2]
  exact decide_eq_true (by omega)
theorem ok_num : ∀ k < 64, Ok1 (Str.ofString (toString ((k : Nat) : Int))) ∧ (Str.ofString (toString ((k : Nat) : Int))).length ≤ 2 ∧ 1 ≤ (Str.ofString (toString ((k : Nat) : Int))).length := by unfold Ok1; decide +kernel
theorem ix_sign {z : Str} {k : Nat} {Q : VK} {H : Hp} (hk : k < z.length) (h1 : z.length ≤ 1000) (hA : z.cps.toList.all (fun c => decide (c < 128 ∧ c ≠ 33)) = true) (q : ∀ c, c < 128 → c ≠ 33 → Q (.str ⟨#[c]⟩) H) : rIxS (.str z) (.int (k : Int)) H Q := by
  have hk' : k < z.cps.toList.length := hk
  have hc := of_decide_eq_true (List.all_eq_true.mp hA _ (List.getElem_mem hk'))
  exact ⟨z, _, z.cps.toList[k], rfl, rfl, small64 (by omega), atI_nat (List.getElem?_eq_getElem hk'), q _ hc.1 hc.2⟩
theorem bang_len {z : Str} (h : z.length ≠ 1) : z ≠ "!" := fun e => h (by rw [e]; decide +kernel)
theorem bang_one {c : Nat} (h : c ≠ 33) : (⟨#[c]⟩ : Str) ≠ "!" := fun e => h (by
  have e1 : (⟨#[c]⟩ : Str).cps.toList = ("!" : Str).cps.toList := by rw [e]
  rw [show ("!" : Str).cps.toList = [33] by decide +kernel] at e1
  exact (List.cons.inj e1).1)
theorem neS_of {x y : Str} (h : (!decide (V.str x = V.str y)) = true) : ¬ x = y := fun e => by
  rw [decide_eq_true (congrArg V.str e)] at h; cases h
theorem eqS_of {x y : Str} (h : ¬ (!decide (V.str x = V.str y)) = true) : x = y := by
  by_cases e : x = y
  · exact e
  · exact absurd (by rw [decide_eq_false (fun z => e (V.str.inj z))]; rfl) h
def sp__law_is_int (K : PySem.W.Frag) (cs : Cs) : Sp := fun vs H Q _ => ∃ n : Int, vs = [.int n] ∧ Q (.bl true) H
def sp__law_word (K : PySem.W.Frag) (cs : Cs) : Sp := fun vs H Q _ => ∃ (a : Addr) (ts : List Int) (p : Int), vs = [.ref a, .int p] ∧ SqL K H a (ts.map V.int) ∧ (0 ≤ p ∧ p ≤ 900000) ∧ ∀ z, Ok1 z → z ≠ "!" → Q (.str z) H
def sp__law_item (K : PySem.W.Frag) (cs : Cs) : Sp := fun vs H Q _ => ∃ (a : Addr) (ts : List Int) (p : Int), vs = [.ref a, .int p] ∧ SqL K H a (ts.map V.int) ∧ (0 ≤ p ∧ p ≤ 800000) ∧ ∀ t H' (n k : Str) (i : Int), Ok1 n → Same H H' → H' t = some (.tup [.str n, .str k, .int i]) → Q (.ref t) H'
def sp__law_put (K : PySem.W.Frag) (cs : Cs) : Sp := fun vs H Q _ => ∃ (a p : Addr) (xs : List AR) (r : Row), vs = [.ref a, .ref p] ∧ RL K H a xs ∧ SqT K H p (rowV r) ∧ xs.length ≤ 100 ∧ LstR K H Q (putA xs (p, r))
def key2 (rs : List Row) : Prop := rs.Pairwise fun x y => kd x ≠ kd y
def NoBang (rs : List Row) : Prop := ∀ r ∈ rs, r.m ≠ "!"
theorem key2_put {rs : List Row} (h : key2 rs) (y : Row) : key2 (putR rs y) := by
  unfold putR key2
  rw [List.pairwise_append]
  refine ⟨List.Pairwise.filter _ h, List.pairwise_singleton _ _, fun x hx z hz => ?_⟩
  rw [List.mem_singleton] at hz
  subst hz
  have := (List.mem_filter.mp hx).2
  intro e
  rw [decide_eq_true e] at this
  cases this
theorem nob_put {rs : List Row} (h : NoBang rs) {y : Row} (hy : y.m ≠ "!") : NoBang (putR rs y) := fun r hr => by
  rcases List.mem_append.mp hr with hr | hr
  · exact h r (List.mem_filter.mp hr).1
  · rw [List.mem_singleton.mp hr]; exact hy
theorem find_key {rs : List Row} (h : key2 rs) {k : Nat} {r : Row} (hk : rs[k]? = some r) : find1 rs r.m r.n = some r := by
  unfold find1
  induction rs generalizing k with
  | nil => cases hk
  | cons x xs ih =>
    unfold key2 at h
    rw [List.pairwise_cons] at h
    cases k with
    | zero =>
      cases hk
      rw [List.find?_cons_of_pos (by exact decide_eq_true rfl)]
    | succ k =>
      have hm : r ∈ xs := List.mem_of_getElem? hk
      have ne := h.1 r hm
      rw [List.find?_cons_of_neg (by rw [decide_eq_false (show ¬ kd x = (r.m, r.n) from ne)]; decide)]
      exact ih h.2 hk
theorem find_bang {rs : List Row} (h : NoBang rs) (n : Str) : find1 rs "!" n = none := by
  unfold find1
  rw [List.find?_eq_none]
  intro r hr z
  have e : kd r = (("!" : Str), n) := of_decide_eq_true z
  exact h r hr (congrArg Prod.fst e)
def sp__law_agrees (K : PySem.W.Frag) (cs : Cs) : Sp := fun vs H Q _ => ∃ (a b : Addr) (xs ys : List AR), vs = [.ref a, .ref b] ∧ RN K H a xs ∧ RL K H b ys ∧ rowsOf xs = rowsOf ys ∧ key2 (rowsOf ys) ∧ NoBang (rowsOf ys) ∧ xs.length ≤ 100 ∧ ∀ H', Same H H' → Q (.bl true) H'
def sp__law_deed (K : PySem.W.Frag) (cs : Cs) : Sp := fun vs H Q _ => ∃ (a d l : Addr) (xs rs : List AR) (wd m : Str), vs = [.ref a, .ref d] ∧ RN K H a xs ∧ xs.length ≤ 100 ∧ SqT K H d [.str wd, .ref l, .str m] ∧ RL K H l rs ∧ rs.length ≤ 100 ∧ (∀ r ∈ rs, r.2.m = m) ∧ ((wd = "put" ∧ ∃ r, rs = [r]) ∨ wd = "publish") ∧
  (60 < ((rowsOf rs).foldl putR (rowsOf xs)).length → ∀ H', Same H H' → Q (.bl true) H') ∧
  (((rowsOf rs).foldl putR (rowsOf xs)).length ≤ 60 → ∀ zs H', rowsOf zs = (rowsOf rs).foldl putR (rowsOf xs) → (∀ c o, c ≠ a → H c = some o → H' c = some o) → RN K H' a zs → Q .non H')
theorem but_of {H H' : Hp} {a : Addr} (s : Same H H') : ∀ c o, c ≠ a → H c = some o → H' c = some o := fun c o _ e => s _ _ e
def row0 (k : Nat) : Row := ⟨"m" ++ Str.ofString (toString ((k % 3 : Nat) : Int)), "n" ++ Str.ofString (toString ((k : Nat) : Int)), "func", k⟩
def rows0 (k : Nat) : List Row := (List.range k).map row0
theorem row0_ok : ∀ k < 52, Ok1 (row0 k).m ∧ Ok1 (row0 k).n ∧ (row0 k).m ≠ "!" := by unfold Ok1; decide +kernel
theorem row0_new : ∀ k < 52, ∀ j < k, (row0 j).n ≠ (row0 k).n := by decide +kernel
theorem rows0_put {k : Nat} (h : k < 52) : putR (rows0 k) (row0 k) = rows0 (k + 1) := by
  unfold putR rows0
  rw [List.range_succ, List.map_append, List.map_singleton]
  congr 1
  rw [List.filter_eq_self]
  intro x hx
  obtain ⟨j, hj, rfl⟩ := List.mem_map.mp hx
  have hj' := List.mem_range.mp hj
  rw [decide_eq_false (fun z => row0_new k h j hj' (congrArg Prod.snd z))]; rfl
theorem rows0_key : ∀ k ≤ 52, key2 (rows0 k) ∧ NoBang (rows0 k)
  | 0, _ => ⟨List.Pairwise.nil, fun _ z => nomatch z⟩
  | k + 1, h => by
    have := rows0_key k (by omega)
    rw [← rows0_put (by omega)]
    exact ⟨key2_put this.1 _, nob_put this.2 (row0_ok k (by omega)).2.2⟩
theorem rows0_len (k : Nat) : (rows0 k).length = k := by unfold rows0; rw [List.length_map, List.length_range]
theorem puts_key : ∀ (ys rs : List Row), key2 rs → key2 (ys.foldl putR rs)
  | [], _, h => h
  | y :: r, rs, h => puts_key r (putR rs y) (key2_put h y)
theorem puts_nob : ∀ (ys rs : List Row), NoBang rs → NoBang ys → NoBang (ys.foldl putR rs)
  | [], _, h, _ => h
  | y :: r, rs, h, g => puts_nob r (putR rs y) (nob_put h (g y (List.mem_cons_self ..))) fun z hz => g z (List.mem_cons_of_mem _ hz)
theorem RN.but {K : PySem.W.Frag} {H H' : Hp} {a b : Addr} {l : List V} {xs : List AR} (ha : H a = some (.lst l)) (nb : b ≠ a) (s : ∀ c o, c ≠ a → H c = some o → H' c = some o) (h : RN K H b xs) : RN K H' b xs :=
  ⟨s _ _ nb h.1, fun x hx => ⟨sqT_but ha s (h.2 x hx).1, (h.2 x hx).2⟩⟩
theorem RN.same {K : PySem.W.Frag} {H H' : Hp} {a : Addr} {xs : List AR} (s : Same H H') (h : RN K H a xs) : RN K H' a xs := ⟨s _ _ h.1, fun x hx => ⟨sqT_same s (h.2 x hx).1, (h.2 x hx).2⟩⟩
theorem RN.rl {K : PySem.W.Frag} {H : Hp} {a : Addr} {xs : List AR} (h : RN K H a xs) : RL K H a xs := ⟨SqL.of h.1, h.2⟩
theorem RN.push {K : PySem.W.Frag} {H : Hp} {a p : Addr} {xs : List AR} {r : Row} (h : RN K H a xs) (hp : SqT K H p (rowV r)) (ok : RowOk r) : RN K (upd H a (.lst (rf xs ++ [V.ref p]))) a (xs ++ [(p, r)]) := by
  have sb : ∀ c o, c ≠ a → H c = some o → upd H a (.lst (rf xs ++ [V.ref p])) c = some o := fun c o n e => by rw [upd_ne n]; exact e
  refine ⟨by rw [upd_same, ← rf_snoc], fun x hx => ?_⟩
  rcases List.mem_append.mp hx with hx | hx
  · exact ⟨sqT_but h.1 sb (h.2 x hx).1, (h.2 x hx).2⟩
  · rw [List.mem_singleton] at hx
    subst hx
    exact ⟨sqT_but h.1 sb hp, ok⟩
/-- what stands between two rounds: the names at A, the model at B, the tape at p -/
structure Ags (K : PySem.W.Frag) (H : Hp) (p A B : Addr) (ts : List Int) (xs ys : List AR) : Prop where
  n : RN K H A xs
  m : RN K H B ys
  t : H p = some (.lst (ts.map V.int))
  e : rowsOf xs = rowsOf ys
  k : key2 (rowsOf ys)
  b : NoBang (rowsOf ys)
  l : ys.length ≤ 60
  ne : B ≠ A
  np : p ≠ A
theorem Ags.same {K : PySem.W.Frag} {H H' : Hp} {p A B : Addr} {ts : List Int} {xs ys : List AR} (s : Same H H') (g : Ags K H p A B ts xs ys) : Ags K H' p A B ts xs ys :=
  ⟨g.n.same s, g.m.same s, s _ _ g.t, g.e, g.k, g.b, g.l, g.ne, g.np⟩
theorem rows_len {xs ys : List AR} (e : rowsOf xs = rowsOf ys) : xs.length = ys.length := by
  have := congrArg List.length e
  unfold rowsOf at this
  rw [List.length_map, List.length_map] at this
  exact this
/-- x is not True, x a bool or None -/
def notT : V → Option Bool
  | .non => some true
  | .bl b => some (!b)
  | _ => none
theorem op_notT {X : Cx} : OpR X (compareOp .IsNot) (fun x y H Q => ∃ b, y = .bl true ∧ notT x = some b ∧ Q (.bl b) H) := by
  intro pins s σ H x y v u Q I rx ry h
  obtain ⟨b, rfl, e, q⟩ := h
  cases x <;> try (cases e; done)
  · cases e; cases rx; cases ry
    exact wpAny_isNot_plain rfl (fin_bl I q rfl)
  · rename_i b'
    cases e; cases rx; cases ry
    exact wpAny_isNot_plain rfl (fin_bl I q (by cases b' <;> rfl))
theorem log_small {z : Int} (h0 : 0 ≤ z) (h1 : z < 1000) : z.natAbs.log2 < 1920 := Nat.lt_of_le_of_lt (Nat.log2_le_self _) (by omega)
theorem cat_len {x : Str} {k : Nat} (hx : x.length = 1) (hk : k < 64) : x.length + (Str.ofString (toString ((k : Nat) : Int))).length ≤ sizeLine := small64 (by have := (ok_num k hk).2.1; omega)
def sp_lawK (K : PySem.W.Frag) : Sp := fun vs H Q _ => ∃ (a : Addr) (ns : List Int), vs = [.ref a] ∧ SqL K H a (ns.map V.int) ∧ ns.length ≤ 63 ∧ ∀ H', Q (.bl true) H'
def sp_law (K : PySem.W.Frag) (cs : Cs) : Sp := sp_lawK K
theorem atI_last {α : Type} (xs : List α) (v : α) : atI (xs ++ [v]) (-1) = some v := by
  unfold atI ixN
  rw [List.length_append, List.length_singleton, if_neg (by omega), if_pos (by omega)]
  show (xs ++ [v])[(-1 + ((xs.length + 1 : Nat) : Int)).toNat]? = some v
  rw [show (-1 + ((xs.length + 1 : Nat) : Int)).toNat = xs.length by omega]
  simp
theorem at_row {zs : List Str} {i : Int} {k : Nat} (h : k < zs.length) : atI (zs.map V.str ++ [.int i]) (0 + (k : Int)) = some (.str (zs.getD k "")) := by
  rw [Int.zero_add]
  refine atI_nat ?_
  rw [List.getElem?_append_left (by rw [List.length_map]; exact h), List.getElem?_map, List.getElem?_eq_getElem h, List.getD_eq_getElem?_getD, List.getElem?_eq_getElem h]; rfl
theorem tyT {K : PySem.W.Frag} {H : Hp} {a : Addr} {xs : List V} (h : SqT K H a xs) : TyX K H (.ref a) (.type "tuple") := by
  rcases h with (h | ⟨o, h⟩) | ⟨o, _, _, h, hc, _⟩
  · exact .base (.tup h)
  · exact .fTuple h
  · exact .kTuple h hc
def sp__law_row_fits (K : PySem.W.Frag) (cs : Cs) : Sp := fun vs H Q _ => ∃ (a b : Addr) (zs : List Str) (i : Int), vs = [.ref a, .ref b] ∧ SqT K H a (zs.map V.str ++ [.int i]) ∧ SqT K H b (zs.map V.str ++ [.int i]) ∧ zs.length ≤ 3 ∧ Q (.bl true) H
section
variable {P : Program} {w : World} {K : PySem.W.Frag} {mg : Str → Option Value} {base : Heap} {cs : Cs}
theorem c_lookup (D : Def K mg "lookup" s_lookup ["names", "module", "name"]) (T : Tp w K mg cs)  : Cal P w K mg base CX0 1 "lookup" (sp_lookup K cs) := by
  refine D.ok sc_lookup (fun vs H Q E h => ?_) (fun f cdv A outer s H vs Q E hr h => ?_)
  · obtain ⟨a, m, n, rs, rfl, _⟩ := h; rfl
  · obtain ⟨a, m, n, rs, rfl, hR, hm, hn, hl, q0, q1⟩ := h
    refine ⟨_, (pss_cons (ps_for PassesOwn.never rfl (pi_list (pv 0)) (pg_name (i := 3) sc_lookup.nd rfl (by first | exact Or.inl rfl | exact Or.inr rfl)) (pss_one (ps_if (pt_cmpR (op_eqD (hu64 hr)) (pe_slice sl_tup (pv 3) po_none (po_some pe_int)) (pe_tup (pa_cons (pv 1) (pa_cons (pv 2) pa_nil))) (by first | rfl | exact nomark _)) (pss_one (ps_ret (pe_slice sl_tup (pv 3) (po_some pe_int) po_none))) pss_nil)))
      (pss_one (ps_ret pe_non))), ?_⟩
    refine ⟨_, rfl, a, rfl, ⟨_, hR.1⟩, for_listD (xs := rf rs) (fun i σ H2 => Same H H2 ∧ (∃ o, σ = [some (.ref a), some (.str m), some (.str n), o]) ∧ find1 ((rs.take i).map (·.2)) m n = none) ⟨Same.refl _, ⟨_, rfl⟩, rfl⟩ (fun i σ H2 _ h => h.1.seq hR.1) ?_ ?_⟩
    · rintro i x _ H2 hx ⟨s2, ⟨o, rfl⟩, hf⟩
      obtain ⟨r, hr', hmem, rfl⟩ := rf_at hx
      obtain ⟨hT, hok⟩ := hR.2 r hmem
      have hT2 := sqT_same s2 hT
      walk_at "go"
      refine ⟨_, _, rfl, hT2, by show ¬ (HT.sIx 4 0 none = 0 ∧ HT.sIx 4 4 (some 2) = 4); decide, fun p1 h1 => ?_⟩
      generalize x1 : upd H2 p1 _ = H3
      obtain ⟨s3, k3⟩ : Same H2 H3 ∧ H3 p1 = some (.tup [.str r.2.m, .str r.2.n]) := by subst x1; exact ⟨Same.new h1, by rw [upd_same]; rfl⟩
      walk_at "go"
      intro p2 h2
      generalize x2 : upd H3 p2 _ = H4
      obtain ⟨s4, k4⟩ : Same H3 H4 ∧ H4 p2 = some (.tup [.str m, .str n]) := by subst x2; exact ⟨Same.new h2, upd_same⟩
      refine eqD_two (SqT.of (s4 _ _ k3)) (SqT.of k4) hok.1 hok.2 hm hn ?_
      walk_at "go"
      have s24 := s2.trans (s3.trans s4)
      refine ite2 (fun c => ?_) (fun c => ?_)
      · have e : kd r.2 = (m, n) := of_decide_eq_true c
        have hfi := (find_step hr' hf).1 e
        walk_at "go"
        refine ⟨_, _, rfl, sqT_same (s3.trans s4) hT2, by show ¬ (HT.sIx 4 0 (some 2) = 0 ∧ HT.sIx 4 4 none = 4); decide, fun p3 h3 => ?_⟩
        walk_at "go"
        exact q1 _ hfi p3 _ (s24.trans (Same.new h3)) (by rw [upd_same]; rfl)
      · have e : ¬ kd r.2 = (m, n) := fun z => c (decide_eq_true z)
        exact ⟨s24, ⟨_, rfl⟩, (find_step hr' hf).2 e⟩
    · rintro _ H2 ⟨s2, ⟨o, rfl⟩, hf⟩
      rw [rf_len, List.take_length] at hf
      walk_at "go"
      exact q0 hf _ s2
theorem c_with_names (D : Def K mg "with_names" s_with_names ["names", "rows"]) (T : Tp w K mg cs)  : Cal P w K mg base CX0 1 "with_names" (sp_with_names K cs) := by
  refine D.ok sc_with_names (fun vs H Q E h => ?_) (fun f cdv A outer s H vs Q E hr h => ?_)
  · obtain ⟨a, b, xs, ys, rfl, _⟩ := h; rfl
  · obtain ⟨a, b, xs, ys, rfl, hX, hY, hx, hy, q⟩ := h
    refine ⟨_, (pss_cons (ps_set (i := 2) sc_with_names.nd rfl (by first | exact Or.inl rfl | exact Or.inr rfl) (pe_callTy call_list_of (by rfl) T.m_list (by decide +kernel) (pa_cons (pv 0) pa_nil)))
      (pss_cons (ps_for PassesOwn.never rfl (pi_list (pv 1)) (pg_name (i := 3) sc_with_names.nd rfl (by first | exact Or.inl rfl | exact Or.inr rfl)) (pss_cons (ps_setLc (i := 2) (own := [("name", 4)]) (g := gName 4) (tt := _) (by rfl) sc_with_names.nd rfl rfl (sw_true rfl rfl rfl (by decide +kernel)) (pi_list (pv 2)) (blkOk_by (own := [("name", 4)]) (N := ["names", "rows", "result", "row", "name"]) (sc := defScope s_with_names) (by decide +kernel)) (fun _ _ _ _ _ => (pg_name (i := 4) sc_with_names.nd rfl (by first | exact Or.inl rfl | exact Or.inr rfl))) (fun _ _ _ _ _ => pts_one (pt_cmpR (op_neDB (hu64 hr)) (pe_slice sl_tupB (pv 4) po_none (po_some pe_int)) (pe_slice sl_tupB (pv 3) po_none (po_some pe_int)) (by first | rfl | exact nomark _))) (fun _ _ _ _ _ => (pv 4)))
      (pss_one (ps_expr (pe_bm PySem.F.plainAttrs_list PySem.F.slot_list_append PySem.F.type_list_append mt_append (pv 2) (pa_cons (pv 3) pa_nil))))))
      (pss_one (ps_ret (pv 2))))), ?_⟩
    walk_at "go"
    refine ⟨a, _, rfl, .inl hX.1, fun l hl => ?_⟩
    generalize x1 : upd H l _ = H1
    obtain ⟨s1, k1⟩ : Same H H1 ∧ H1 l = some (.lst (rf xs)) := by subst x1; exact ⟨Same.new hl, upd_same⟩
    refine ⟨_, rfl, b, rfl, ⟨_, s1.seq hY.1⟩, for_listD (xs := rf ys) (fun i σ H2 => Same H H2 ∧ ∃ (p : Addr) (o : Option V), H p = none ∧ H2 p = some (.lst (rf ((ys.take i).foldl putA xs))) ∧ σ = [some (.ref a), some (.ref b), some (.ref p), o, none]) ⟨s1, l, _, hl, k1, rfl⟩ (fun i σ H2 _ h => h.1.seq hY.1) ?_ ?_⟩
    · rintro i x _ H2 hxi ⟨s2, p, o, hp, k2, rfl⟩
      obtain ⟨r, hr', hmem, rfl⟩ := rf_at hxi
      obtain ⟨hT, hok⟩ := hY.2 r hmem
      have hi : i < ys.length := (List.getElem?_eq_some_iff.mp hr').1
      have est : (ys.take (i + 1)).foldl putA xs = putA ((ys.take i).foldl putA xs) r := by rw [List.take_add_one, hr', List.foldl_append]; rfl
      have hla : ((ys.take i).foldl putA xs).length ≤ 100 + i := by
        have := putAs_len (ys.take i) xs
        rw [List.length_take] at this
        omega
      have hall := putAs_all (K := K) (H := H) (ys.take i) xs hX.2 (fun y hy => hY.2 y (List.mem_of_mem_take hy))
      generalize (ys.take i).foldl putA xs = acc at k2 est hla hall
      walk_at "go"
      refine ⟨⟨_, SqL.of k2⟩, fun D hD => ?_⟩
      refine lc_list (xs := rf acc) (fun j H3 => Same H2 H3 ∧ H3 D = some (.lst (rf ((acc.take j).filter fun x => !decide (kd x.2 = kd r.2))))) ⟨Same.new hD, upd_same⟩ (fun j H3 _ h => h.1.seq (SqL.of k2)) ?_ ?_
      · rintro j x H3 hxj ⟨s3, k3⟩
        obtain ⟨y, hy', hym, rfl⟩ := rf_at hxj
        have hj : j < acc.length := (List.getElem?_eq_some_iff.mp hy').1
        obtain ⟨hTy, hoky⟩ := hall y hym
        have hTy3 := sqT_same (s2.trans s3) hTy
        have hTr3 := sqT_same (s2.trans s3) hT
        have hlf : ((acc.take j).filter fun x => !decide (kd x.2 = kd r.2)).length ≤ 300 := by
          have := List.length_filter_le (fun x : AR => !decide (kd x.2 = kd r.2)) (acc.take j)
          rw [List.length_take] at this
          omega
        have esn : (acc.take (j + 1)).filter (fun x => !decide (kd x.2 = kd r.2)) = (acc.take j).filter (fun x => !decide (kd x.2 = kd r.2)) ++ (if kd y.2 = kd r.2 then [] else [y]) := by
          rw [List.take_add_one, hy', List.filter_append]
          by_cases e : kd y.2 = kd r.2 <;> simp [e]
        generalize (acc.take j).filter (fun x => !decide (kd x.2 = kd r.2)) = fl at k3 hlf esn
        refine ⟨rfl, ?_⟩
        walk_at "go"
        refine ⟨_, _, rfl, hTy3, by show ¬ (HT.sIx 4 0 none = 0 ∧ HT.sIx 4 4 (some 2) = 4); decide, fun p1 h1 => ?_⟩
        generalize x1 : upd H3 p1 _ = H4
        obtain ⟨s4, k4⟩ : Same H3 H4 ∧ H4 p1 = some (.tup [.str y.2.m, .str y.2.n]) := by subst x1; exact ⟨Same.new h1, by rw [upd_same]; rfl⟩
        walk_at "go"
        refine ⟨_, _, rfl, sqT_same s4 hTr3, by show ¬ (HT.sIx 4 0 none = 0 ∧ HT.sIx 4 4 (some 2) = 4); decide, fun p2 h2 => ?_⟩
        generalize x2 : upd H4 p2 _ = H5
        obtain ⟨s5, k5⟩ : Same H4 H5 ∧ H5 p2 = some (.tup [.str r.2.m, .str r.2.n]) := by subst x2; exact ⟨Same.new h2, by rw [upd_same]; rfl⟩
        refine neD_two (SqT.of (s5 _ _ k4)) (SqT.of k5) hoky.1 hoky.2 hok.1 hok.2 ?_
        have s35 := s4.trans s5
        walk_at "go"
        refine ite2 (fun c => ?_) (fun c => ?_)
        · have e : ¬ kd y.2 = kd r.2 := fun z => by rw [show decide ((y.2.m, y.2.n) = (r.2.m, r.2.n)) = true from decide_eq_true z] at c; cases c
          rw [esn, if_neg e]
          refine ⟨_, rfl, _, s35 _ _ k3, by rw [rf_len]; exact small64' (by omega), fun b o e => ?_, ?_⟩
          · rw [upd_ne (ne_of_none e hD)]; exact s35 _ _ (s3 _ _ e)
          · rw [upd_same, rf_snoc]
        · have e : kd y.2 = kd r.2 := by
            by_cases z : kd y.2 = kd r.2
            · exact z
            · exact absurd (by rw [show decide ((y.2.m, y.2.n) = (r.2.m, r.2.n)) = false from decide_eq_false z]; rfl) c
          rw [esn, if_pos e, List.append_nil]
          exact ⟨s3.trans s35, s35 _ _ k3⟩
      · rintro H3 ⟨s3, k3⟩
        rw [rf_len, List.take_length] at k3
        have hlf := List.length_filter_le (fun x : AR => !decide (kd x.2 = kd r.2)) acc
        walk_at "go"
        refine ⟨.inl ⟨rfl, _, SqL.of k3⟩, ?_⟩
        walk_at "go"
        refine ⟨_, _, _, rfl, rfl, k3, by rw [rf_len]; exact small64' (by omega), ?_⟩
        walk_at "go"
        refine ⟨fun c o e => ?_, D, _, none_of s2 hD, ?_, rfl⟩
        · rw [upd_ne (ne_of_none (s2 _ _ e) hD)]; exact s3 _ _ (s2 _ _ e)
        · rw [upd_same, est, rf_snoc]; rfl
    · rintro _ H2 ⟨s2, p, o, hp, k2, rfl⟩
      rw [rf_len, List.take_length] at k2
      walk_at "go"
      exact q p _ s2 hp k2
theorem c_put_names (D : Def K mg "put_names" s_put_names ["names", "rows"]) (T : Tp w K mg cs) (c_with_names : Cal P w K mg base CX0 1 "with_names" (sp_with_names K cs)) : Cal P w K mg base (L2.CX P w) 3 "put_names" (sp_put_names K cs) := by
  refine D.okX sc_put_names (fun vs H Q E h => ?_) (fun f cdv A outer s H vs Q E hr h => ?_)
  · obtain ⟨a, b, xs, ys, rfl, _⟩ := h; rfl
  · obtain ⟨a, b, xs, ys, rfl, hX, hX2, hY, hx, hy, q1, q2⟩ := h
    refine ⟨_, (pss_cons (ps_set (i := 2) sc_put_names.nd rfl (by first | exact Or.inl rfl | exact Or.inr rfl) (pe_c c_with_names hr (by decide) (by rfl) (pa_cons (pv 0) (pa_cons (pv 1) pa_nil))))
      (pss_cons (ps_if (pt_cmpR op_gt (pe_callB call_len_seq (by rfl) T.m_len PySem.boot_len (pa_cons (pv 2) pa_nil)) (pe_gint (by rfl) T.i_MOST_NAMES) (by first | rfl | exact nomark _)) (pss_one (ps_raise rfl (takes_of rfl rfl rfl rfl) (pmk_oex T.e_LimitReached.T T.iC_LimitReached T.tI_LimitReached (in_LimitReached T) (hr.mono (by decide)) T.b_LimitReached .nil pass0 (by rfl) T.e_LimitReached.g (pa_cons pe_str pa_nil)))) pss_nil)
      (pss_one (ps_asg (pv 2) (pg_all (pv 0)))))), ?_⟩
    refine ⟨_, rfl, _, rfl, a, b, xs, ys, rfl, ⟨SqL.of hX, hX2⟩, hY, hx, hy, fun p H1 s1 hp k1 => ?_⟩
    walk_at "go"
    refine ⟨p, _, rfl, .inl (SqL.of k1), ?_⟩
    simp only [rf_len]
    have hle := putAs_len ys xs
    generalize ys.foldl putA xs = zs at q1 q2 k1 hle
    walk_at "go"
    refine ite2 (fun c => ?_) (fun c => ?_)
    · have c' : (60 : Int) < zs.length := of_decide_eq_true c
      walk_at "go"
      exact (fly1 (a := "what") fun d Hf s3 k => q1 (by omega) d Hf (s1.trans s3) k).2
    · have c' : ¬ (60 : Int) < zs.length := of_decide_eq_false (Bool.eq_false_iff.mpr c)
      walk_at "go"
      refine ⟨a, p, _, _, rfl, rfl, fun z => ?_, s1 _ _ hX, k1, by rw [rf_len, rf_len]; exact Nat.le_trans (show xs.length + zs.length ≤ 1000 by omega) (by decide), ?_⟩
      · rw [z, hp] at hX; cases hX
      · refine q2 (by omega) _ (fun c o n e => ?_) upd_same
        rw [upd_ne n]; exact s1 _ _ e
theorem c_put_name (D : Def K mg "put_name" s_put_name ["names", "module", "name", "kind", "index"]) (T : Tp w K mg cs) (c_put_names : Cal P w K mg base (L2.CX P w) 3 "put_names" (sp_put_names K cs)) : Cal P w K mg base (L2.CX P w) 4 "put_name" (sp_put_name K cs) := by
  refine D.okX sc_put_name (fun vs H Q E h => ?_) (fun f cdv A outer s H vs Q E hr h => ?_)
  · obtain ⟨a, xs, r, rfl, _⟩ := h; rfl
  · obtain ⟨a, xs, r, rfl, hN, hx, hok, q⟩ := h
    refine ⟨_, (pss_one (ps_expr (pe_cE c_put_names hr (by decide) (passes_call (takes_of rfl rfl rfl rfl) (fun _ _ _ _ h => h)) (by rfl) (pa_cons (pv 0) (pa_cons (pe_lst (pa_cons (pe_tup (pa_cons (pv 1) (pa_cons (pv 2) (pa_cons (pv 3) (pa_cons (pv 4) pa_nil))))) pa_nil)) pa_nil))))), ?_⟩
    walk_at "go"
    intro p1 h1
    generalize x1 : upd H p1 _ = H1
    obtain ⟨s1, k1⟩ : Same H H1 ∧ H1 p1 = some (.tup (rowV r)) := by subst x1; exact ⟨Same.new h1, upd_same⟩
    walk_at "go"
    intro p2 h2
    generalize x2 : upd H1 p2 _ = H2
    obtain ⟨s2, k2⟩ : Same H1 H2 ∧ H2 p2 = some (.lst (rf [(p1, r)])) := by subst x2; exact ⟨Same.new h2, upd_same⟩
    have s12 := s1.trans s2
    have hN2 : RN K H2 a xs := ⟨s12 _ _ hN.1, fun x hx => ⟨sqT_same s12 (hN.2 x hx).1, (hN.2 x hx).2⟩⟩
    have hY : ∀ x ∈ [(p1, r)], SqT K H2 x.1 (rowV x.2) ∧ RowOk x.2 := fun x hx => by rw [List.mem_singleton] at hx; subst hx; exact ⟨SqT.of (s2 _ _ k1), hok⟩
    obtain ⟨q1, q2⟩ := Put.use hN2 hY s12 q
    refine ⟨a, p2, xs, [(p1, r)], rfl, hN2.1, hN2.2, ⟨SqL.of k2, hY⟩, hx, by show 1 ≤ 100; decide, q1, fun hl H' sb k => ?_⟩
    walk_at "go"
    exact q2 hl H' sb k
theorem c_publish_items (D : Def K mg "publish_items" s_publish_items ["names", "module", "items"]) (T : Tp w K mg cs) (c_put_names : Cal P w K mg base (L2.CX P w) 3 "put_names" (sp_put_names K cs)) : Cal P w K mg base (L2.CX P w) 4 "publish_items" (sp_publish_items K cs) := by
  refine D.okX sc_publish_items (fun vs H Q E h => ?_) (fun f cdv A outer s H vs Q E hr h => ?_)
  · obtain ⟨a, b, m, xs, ys, rfl, _⟩ := h; rfl
  · obtain ⟨a, b, m, xs, ys, rfl, hN, hx, hy, hS, hI, q⟩ := h
    refine ⟨_, (pss_one (ps_expr (pe_cE c_put_names hr (by decide) (passes_call (takes_of rfl rfl rfl rfl) (fun _ _ _ _ h => h)) (by rfl) (pa_cons (pv 0) (pa_cons (pe_lc (own := [("item", 3)]) (g := gName 3) (tt := tYes) (by rfl) sc_publish_items.nd (pi_list (pv 2)) (blkOk_by (own := [("item", 3)]) (N := ["names", "module", "items", "item"]) (sc := defScope s_publish_items) (by decide +kernel)) (fun _ _ _ _ _ => (pg_name (i := 3) sc_publish_items.nd rfl (by first | exact Or.inl rfl | exact Or.inr rfl))) (fun _ _ _ _ _ => pts_nil) (fun _ _ _ _ _ => (pe_op op_catTB (pe_tup (pa_cons (pv 1) pa_nil)) (pv 3)))) pa_nil))))), ?_⟩
    walk_at "go"
    refine ⟨⟨_, hS⟩, fun D hD => ?_⟩
    refine lc_list (xs := rf ys) (fun j H3 => Same H H3 ∧ ∃ zs : List AR, rowsOf zs = rowsOf (ys.take j) ∧ H3 D = some (.lst (rf zs)) ∧ ∀ z ∈ zs, SqT K H3 z.1 (rowV z.2) ∧ RowOk z.2) ⟨Same.new hD, [], rfl, upd_same, fun _ z => nomatch z⟩ (fun j H3 _ h => h.1.seq hS) ?_ ?_
    · rintro j x H3 hxj ⟨s3, zs, ez, k3, hz⟩
      obtain ⟨y, hy', hym, rfl⟩ := rf_at hxj
      have hj : j < ys.length := (List.getElem?_eq_some_iff.mp hy').1
      obtain ⟨hTy, hoky, em⟩ := hI y hym
      have hTy3 := sqT_same s3 hTy
      have hzl : zs.length = j := by
        have := congrArg List.length ez
        unfold rowsOf at this
        rw [List.length_map, List.length_map, List.length_take] at this
        omega
      refine ⟨rfl, ?_⟩
      walk_at "go"
      intro p1 h1
      generalize x1 : upd H3 p1 _ = H4
      obtain ⟨s4, k4⟩ : Same H3 H4 ∧ H4 p1 = some (.tup [.str m]) := by subst x1; exact ⟨Same.new h1, upd_same⟩
      walk_at "go"
      refine ⟨p1, y.1, [.str m], tailV y.2, rfl, rfl, SqT.of k4, sqT_same s4 hTy3, (fun z => nomatch z), by show 1 + 3 ≤ sizeLine; decide, (fun z => nomatch z), fun _ p2 h2 => ?_⟩
      generalize x2 : upd H4 p2 _ = H5
      obtain ⟨s5, k5⟩ : Same H4 H5 ∧ H5 p2 = some (.tup (rowV y.2)) := by
        subst x2
        refine ⟨Same.new h2, ?_⟩
        rw [upd_same, ← em]; rfl
      have s35 := s4.trans s5
      refine ⟨_, s35 _ _ k3, by rw [rf_len]; exact small64' (by omega), fun c o e => ?_, zs ++ [(p2, y.2)], ?_, ?_, ?_⟩
      · rw [upd_ne (ne_of_none e hD)]; exact s35 _ _ (s3 _ _ e)
      · rw [List.take_add_one, hy']
        unfold rowsOf at ez ⊢
        rw [List.map_append, List.map_append, ez]; rfl
      · rw [upd_same, ← rf_snoc]
      · have hk5 : H5 D = some (.lst (rf zs)) := s35 _ _ k3
        have sb : ∀ c o, c ≠ D → H5 c = some o → upd H5 D (.lst (rf zs ++ [V.ref p2])) c = some o := fun c o n e => by rw [upd_ne n]; exact e
        intro z hzm
        rcases List.mem_append.mp hzm with hzm | hzm
        · exact ⟨sqT_but hk5 sb (sqT_same s35 (hz z hzm).1), (hz z hzm).2⟩
        · rw [List.mem_singleton] at hzm
          subst hzm
          exact ⟨sqT_but hk5 sb (SqT.of k5), hoky⟩
    · rintro H3 ⟨s3, zs, ez, k3, hz⟩
      rw [rf_len, List.take_length] at ez
      have hN3 : RN K H3 a xs := ⟨s3 _ _ hN.1, fun x hx => ⟨sqT_same s3 (hN.2 x hx).1, (hN.2 x hx).2⟩⟩
      have hzl : zs.length = ys.length := by
        have := congrArg List.length ez
        unfold rowsOf at this
        rw [List.length_map, List.length_map] at this
        exact this
      rw [← ez] at q
      obtain ⟨q1, q2⟩ := Put.use hN3 hz s3 q
      refine ⟨a, D, xs, zs, rfl, hN3.1, hN3.2, ⟨SqL.of k3, hz⟩, hx, by omega, q1, fun hl H' sb k => ?_⟩
      walk_at "go"
      exact q2 hl H' sb k
theorem c__law_is_int (D : Def K mg "_law_is_int" s__law_is_int ["actual"]) (T : Tp w K mg cs)  : Cal P w K mg base CX0 1 "_law_is_int" (sp__law_is_int K cs) := by
  refine D.ok sc__law_is_int (fun vs H Q E h => ?_) (fun f cdv A outer s H vs Q E hr h => ?_)
  · obtain ⟨n, rfl, _⟩ := h; rfl
  · obtain ⟨n, rfl, q⟩ := h
    refine ⟨_, (pss_one (ps_ret (pe_and (pe_callB call_isi (by rfl) T.m_isinstance (by decide +kernel) (pa_cons (pv 0) (pa_cons (pe_bltn (v := .ty "int") (u := .type "int") (by rfl) T.m_int (by decide +kernel) rfl) pa_nil))) (pe_one (pe_not (pe_callB call_isi (by rfl) T.m_isinstance (by decide +kernel) (pa_cons (pv 0) (pa_cons (pe_bltn (v := .ty "bool") (u := .type "bool") (by rfl) T.m_bool (by decide +kernel) rfl) pa_nil)))))))), ?_⟩
    walk_at "go"
    exact q
theorem c__law_word (D : Def K mg "_law_word" s__law_word ["tape", "at"]) (T : Tp w K mg cs) (c__law_draw : Cal P w K mg base CX0 1 "_law_draw" (sp__law_draw K cs)) : Cal P w K mg base CX0 2 "_law_word" (sp__law_word K cs) := by
  refine D.ok sc__law_word (fun vs H Q E h => ?_) (fun f cdv A outer s H vs Q E hr h => ?_)
  · obtain ⟨a, ts, p, rfl, _⟩ := h; rfl
  · obtain ⟨a, ts, p, rfl, hS, ⟨hp0, hp⟩, q⟩ := h
    refine ⟨_, (pss_cons (ps_set (i := 2) sc__law_word.nd rfl (by first | exact Or.inl rfl | exact Or.inr rfl) (pe_c c__law_draw hr (by decide) (by rfl) (pa_cons (pv 0) (pa_cons (pv 1) (pa_cons pe_int pa_nil)))))
      (pss_cons (ps_set (i := 3) sc__law_word.nd rfl (by first | exact Or.inl rfl | exact Or.inr rfl) (pe_ix ix_str pe_str (pe_c c__law_draw hr (by decide) (by rfl) (pa_cons (pv 0) (pa_cons (pe_op op_add (pv 1) pe_int) (pa_cons pe_int pa_nil)))) (fun _ _ => rfl)))
      (pss_cons (ps_if (pt_cmpR op_eq (pv 2) pe_int (by first | rfl | exact nomark _)) (pss_one (ps_ret pe_str)) pss_nil)
      (pss_cons (ps_if (pt_cmpR op_eq (pv 2) pe_int (by first | rfl | exact nomark _)) (pss_one (ps_ret (pe_op op_mulS1 (pv 3) pe_int))) pss_nil)
      (pss_cons (ps_if (pt_cmpR op_lt (pv 2) pe_int (by first | rfl | exact nomark _)) (pss_one (ps_ret (pe_op op_add_str (pv 3) (pe_callTy call_str_int (by rfl) T.m_str (by decide +kernel) (pa_cons (pe_c c__law_draw hr (by decide) (by rfl) (pa_cons (pv 0) (pa_cons (pe_op op_add (pv 1) pe_int) (pa_cons pe_int pa_nil)))) pa_nil))))) pss_nil)
      (pss_one (ps_ret (pv 3)))))))), ?_⟩
    walk_at "go"
    refine ⟨a, ts, p, 8, rfl, hS, ⟨by omega, by omega⟩, by decide, fun pick k0 k1 => ?_⟩
    walk_at "go"
    refine ⟨a, ts, p + 1, 10, rfl, hS, ⟨by omega, by omega⟩, by decide, fun v v0 v1 => ?_⟩
    obtain ⟨v, rfl⟩ := Int.eq_ofNat_of_zero_le v0
    have hv : v < 10 := by omega
    walk_at "go"
    refine ix_sign (by rw [show ("abcxyz -~/" : Str).length = 10 by decide +kernel]; exact hv) (by decide +kernel) (by decide +kernel) fun c hc hc33 => ?_
    have hc1 : Ok1 ⟨#[c]⟩ := ok_rep (n := 1) hc
    walk_at "go"
    refine ite2 (fun _ => ?_) (fun _ => ?_)
    · walk_at "go"
      exact q _ (by unfold Ok1; decide +kernel) (bang_len (by decide +kernel))
    walk_at "go"
    refine ite2 (fun _ => ?_) (fun _ => ?_)
    · walk_at "go"
      exact q _ (ok_rep hc) (bang_len (by show (List.replicate _ c).toArray.size ≠ 1; rw [List.size_toArray, List.length_replicate]; decide))
    walk_at "go"
    refine ite2 (fun _ => ?_) (fun _ => ?_)
    · walk_at "go"
      refine ⟨a, ts, p + 2, 40, rfl, hS, ⟨by omega, by omega⟩, by decide, fun d d0 d1 => ?_⟩
      obtain ⟨d, rfl⟩ := Int.eq_ofNat_of_zero_le d0
      have hd := ok_num d (by omega)
      walk_at "go"
      refine ⟨by rw [Int.natAbs_natCast]; exact Nat.lt_of_le_of_lt (Nat.log2_le_self d) (by omega), _, _, rfl, rfl, small64 (by rw [show (⟨#[c]⟩ : Str).length = 1 from rfl]; omega), q _ (ok_add hc1 hd.1) (bang_len (by show ((#[c] : Array Nat) ++ _).size ≠ 1; rw [Array.size_append]; have h1 : 1 ≤ (Str.ofString (toString ((d : Nat) : Int))).cps.size := hd.2.2; show 1 + _ ≠ 1; omega))⟩
    walk_at "go"
    exact q _ hc1 (bang_one hc33)
theorem c__law_put (D : Def K mg "_law_put" s__law_put ["model", "row"]) (T : Tp w K mg cs)  : Cal P w K mg base CX0 1 "_law_put" (sp__law_put K cs) := by
  refine D.ok sc__law_put (fun vs H Q E h => ?_) (fun f cdv A outer s H vs Q E hr h => ?_)
  · obtain ⟨a, p, xs, r, rfl, _⟩ := h; rfl
  · obtain ⟨a, p, xs, r, rfl, hX, hT, hx, q⟩ := h
    refine ⟨_, (pss_one (ps_ret (pe_op op_cat (pe_lc (own := [("old", 2)]) (g := gName 2) (tt := _) (by rfl) sc__law_put.nd (pi_list (pv 0)) (blkOk_by (own := [("old", 2)]) (N := ["model", "row", "old"]) (sc := defScope s__law_put) (by decide +kernel)) (fun _ _ _ _ _ => (pg_name (i := 2) sc__law_put.nd rfl (by first | exact Or.inl rfl | exact Or.inr rfl))) (fun _ _ _ _ _ => pts_one (PW.pt (pw_or (pt_cmpR op_ne (pe_ix ix_tupB (pv 2) pe_int (fun _ _ => rfl)) (pe_ix ix_tupB (pv 1) pe_int (fun _ _ => rfl)) (by first | rfl | exact nomark _)) (pw_or1 (pt_cmpR op_ne (pe_ix ix_tupB (pv 2) pe_int (fun _ _ => rfl)) (pe_ix ix_tupB (pv 1) pe_int (fun _ _ => rfl)) (by first | rfl | exact nomark _)))))) (fun _ _ _ _ _ => (pv 2))) (pe_lst (pa_cons (pv 1) pa_nil))))), ?_⟩
    walk_at "go"
    refine ⟨⟨_, hX.1⟩, fun D hD => ?_⟩
    refine lc_list (xs := rf xs) (fun j H3 => Same H H3 ∧ H3 D = some (.lst (rf ((xs.take j).filter fun x => !decide (kd x.2 = kd r))))) ⟨Same.new hD, upd_same⟩ (fun j H3 _ h => h.1.seq hX.1) ?_ ?_
    · rintro j x H3 hxj ⟨s3, k3⟩
      obtain ⟨y, hy', hym, rfl⟩ := rf_at hxj
      have hj : j < xs.length := (List.getElem?_eq_some_iff.mp hy').1
      obtain ⟨hTy, hoky⟩ := hX.2 y hym
      have hTy3 : SqT K H3 y.1 [.str y.2.m, .str y.2.n, .str y.2.k, .int y.2.i] := sqT_same s3 hTy
      have hTr3 : SqT K H3 p [.str r.m, .str r.n, .str r.k, .int r.i] := sqT_same s3 hT
      have hlf : ((xs.take j).filter fun x => !decide (kd x.2 = kd r)).length ≤ 300 := by
        have := List.length_filter_le (fun x : AR => !decide (kd x.2 = kd r)) (xs.take j)
        rw [List.length_take] at this
        omega
      have esn : (xs.take (j + 1)).filter (fun x => !decide (kd x.2 = kd r)) = (xs.take j).filter (fun x => !decide (kd x.2 = kd r)) ++ (if kd y.2 = kd r then [] else [y]) := by
        rw [List.take_add_one, hy', List.filter_append]
        by_cases e : kd y.2 = kd r <;> simp [e]
      generalize (xs.take j).filter (fun x => !decide (kd x.2 = kd r)) = fl at k3 hlf esn
      have fin : ∀ b : Bool, b = !decide (kd y.2 = kd r) → (if b = true then ∃ acc, H3 D = some (HO.lst acc) ∧ acc.length < sizeLine ∧ Same H (upd H3 D (.lst (acc ++ [.ref y.1]))) ∧ upd H3 D (.lst (acc ++ [.ref y.1])) D = some (.lst (rf ((xs.take (j + 1)).filter fun x => !decide (kd x.2 = kd r)))) else Same H H3 ∧ H3 D = some (.lst (rf ((xs.take (j + 1)).filter fun x => !decide (kd x.2 = kd r))))) := by
        rintro b rfl
        refine ite2 (fun c => ?_) (fun c => ?_)
        · have e : ¬ kd y.2 = kd r := fun z => by rw [decide_eq_true z] at c; cases c
          rw [esn, if_neg e]
          refine ⟨_, k3, by rw [rf_len]; exact small64' (by omega), fun b o e => ?_, ?_⟩
          · rw [upd_ne (ne_of_none e hD)]; exact s3 _ _ e
          · rw [upd_same, rf_snoc]
        · have e : kd y.2 = kd r := by
            by_cases z : kd y.2 = kd r
            · exact z
            · exact absurd (by rw [decide_eq_false z]; rfl) c
          rw [esn, if_pos e, List.append_nil]
          exact ⟨s3, k3⟩
      have fT : ¬ kd y.2 = kd r → ∃ acc, H3 D = some (HO.lst acc) ∧ acc.length < sizeLine ∧ Same H (upd H3 D (.lst (acc ++ [.ref y.1]))) ∧ upd H3 D (.lst (acc ++ [.ref y.1])) D = some (.lst (rf ((xs.take (j + 1)).filter fun x => !decide (kd x.2 = kd r)))) := fun e => by
        have f := fin true (by rw [decide_eq_false e]; rfl)
        rw [if_pos rfl] at f
        exact f
      have fF : kd y.2 = kd r → Same H H3 ∧ H3 D = some (.lst (rf ((xs.take (j + 1)).filter fun x => !decide (kd x.2 = kd r)))) := fun e => by
        have f := fin false (by rw [decide_eq_true e]; rfl)
        rw [if_neg (by decide)] at f
        exact f
      refine ⟨rfl, ?_⟩
      walk_at "go"
      refine ite2 (fun c => ?_) (fun c => ?_)
      · have e : ¬ y.2.m = r.m := neS_of c
        exact ⟨_, rfl, fT fun z => e (congrArg Prod.fst z)⟩
      have em : y.2.m = r.m := eqS_of c
      walk_at "go"
      refine ite2 (fun c => ?_) (fun c => ?_)
      · have e : ¬ y.2.n = r.n := neS_of c
        exact ⟨_, rfl, fT fun z => e (congrArg Prod.snd z)⟩
      · have en : y.2.n = r.n := eqS_of c
        exact fF (by unfold kd; rw [em, en])
    · rintro H3 ⟨s3, k3⟩
      rw [rf_len, List.take_length] at k3
      have hlf := List.length_filter_le (fun x : AR => !decide (kd x.2 = kd r)) xs
      walk_at "go"
      intro l1 h1
      generalize x1 : upd H3 l1 _ = H4
      obtain ⟨s4, k4⟩ : Same H3 H4 ∧ H4 l1 = some (.lst [V.ref p]) := by subst x1; exact ⟨Same.new h1, upd_same⟩
      refine ⟨D, l1, _, _, rfl, rfl, s4 _ _ k3, k4, small64 (by rw [rf_len, List.length_singleton]; omega), fun p3 h3 => ?_⟩
      refine q p3 _ ((s3.trans s4).trans (Same.new h3)) (none_of (s3.trans s4) h3) ?_
      rw [upd_same]
      show some (HO.lst (rf (xs.filter fun x => !decide (kd x.2 = kd r)) ++ [V.ref (p, r).1])) = _
      rw [rf_snoc]; rfl
theorem c__law_item (D : Def K mg "_law_item" s__law_item ["tape", "at"]) (T : Tp w K mg cs) (c__law_draw : Cal P w K mg base CX0 1 "_law_draw" (sp__law_draw K cs)) (c__law_word : Cal P w K mg base CX0 2 "_law_word" (sp__law_word K cs)) : Cal P w K mg base CX0 3 "_law_item" (sp__law_item K cs) := by
  refine D.ok sc__law_item (fun vs H Q E h => ?_) (fun f cdv A outer s H vs Q E hr h => ?_)
  · obtain ⟨a, ts, p, rfl, _⟩ := h; rfl
  · obtain ⟨a, ts, p, rfl, hS, ⟨hp0, hp⟩, q⟩ := h
    refine ⟨_, (pss_cons (ps_set (i := 2) sc__law_item.nd rfl (by first | exact Or.inl rfl | exact Or.inr rfl) (pe_ix ix_list (pe_lst (pa_cons pe_str (pa_cons pe_str (pa_cons pe_str (pa_cons pe_str (pa_cons pe_str pa_nil)))))) (pe_c c__law_draw hr (by decide) (by rfl) (pa_cons (pv 0) (pa_cons (pv 1) (pa_cons pe_int pa_nil)))) (fun _ _ => rfl)))
      (pss_one (ps_ret (pe_tup (pa_cons (pe_c c__law_word hr (by decide) (by rfl) (pa_cons (pv 0) (pa_cons (pe_op op_add (pv 1) pe_int) pa_nil))) (pa_cons (pv 2) (pa_cons (pe_c c__law_draw hr (by decide) (by rfl) (pa_cons (pv 0) (pa_cons (pe_op op_add (pv 1) pe_int) (pa_cons pe_int pa_nil)))) pa_nil))))))), ?_⟩
    walk_at "go"
    intro l1 h1
    generalize x1 : upd H l1 _ = H1
    obtain ⟨s1, k1⟩ := newE (zs := ["func", "table", "memory", "global", "tag"]) h1 x1 rfl
    walk_at "go"
    refine ⟨a, ts, p, 5, rfl, s1.seq hS, ⟨by omega, by omega⟩, by decide, fun d d0 d1 => ?_⟩
    obtain ⟨d, rfl⟩ := Int.eq_ofNat_of_zero_le d0
    obtain ⟨k, _, hk⟩ := at_strs (zs := ["func", "table", "memory", "global", "tag"]) (show d < 5 by omega)
    refine ⟨_, _, _, _, rfl, rfl, SqL.of k1, hk, ?_⟩
    walk_at "go"
    refine ⟨a, ts, p + 1, rfl, s1.seq hS, ⟨by omega, by omega⟩, fun n hn _ => ?_⟩
    walk_at "go"
    refine ⟨a, ts, p + 4, 300, rfl, s1.seq hS, ⟨by omega, by omega⟩, by decide, fun i i0 i1 => ?_⟩
    walk_at "go"
    intro t ht
    exact q t _ n k i hn (s1.trans (Same.new ht)) upd_same
theorem c__law_row_fits (D : Def K mg "_law_row_fits" s__law_row_fits ["actual", "due"]) (T : Tp w K mg cs) (c__law_is_int : Cal P w K mg base CX0 1 "_law_is_int" (sp__law_is_int K cs)) : Cal P w K mg base CX0 2 "_law_row_fits" (sp__law_row_fits K cs) := by
  refine D.ok sc__law_row_fits (fun vs H Q E h => ?_) (fun f cdv A outer s H vs Q E hr h => ?_)
  · obtain ⟨a, b, zs, i, rfl, _⟩ := h; rfl
  · obtain ⟨a, b, zs, i, rfl, hA, hB, hl, q⟩ := h
    refine ⟨_, (pss_cons (ps_if (PW.pt (pw_or (pt_not (pt_val (pe_callB call_isi (by rfl) T.m_isinstance (by decide +kernel) (pa_cons (pv 0) (pa_cons (pe_bltn (v := .ty "tuple") (u := .type "tuple") (by rfl) T.m_tuple (by decide +kernel) rfl) pa_nil))))) (pw_or1 (pt_cmpR op_ne (pe_callB call_len_seq (by rfl) T.m_len PySem.boot_len (pa_cons (pv 0) pa_nil)) (pe_callB call_len_seq (by rfl) T.m_len PySem.boot_len (pa_cons (pv 1) pa_nil)) (by first | rfl | exact nomark _))))) (pss_one (ps_ret pe_bl)) pss_nil)
      (pss_cons (ps_for PassesOwn.never rfl (pi_range1 (by rfl) T.m_range (pa_cons (pe_op op_sub (pe_callB call_len_seq (by rfl) T.m_len PySem.boot_len (pa_cons (pv 1) pa_nil)) pe_int) pa_nil)) (pg_name (i := 2) sc__law_row_fits.nd rfl (by first | exact Or.inl rfl | exact Or.inr rfl)) (pss_one (ps_if (PW.pt (pw_or (pt_not (pt_val (pe_callB call_isi (by rfl) T.m_isinstance (by decide +kernel) (pa_cons (pe_ix ix_tup (pv 0) (pv 2) (fun _ _ => rfl)) (pa_cons (pe_bltn (v := .ty "str") (u := .type "str") (by rfl) T.m_str (by decide +kernel) rfl) pa_nil))))) (pw_or1 (pt_cmpR op_ne (pe_ix ix_tup (pv 0) (pv 2) (fun _ _ => rfl)) (pe_ix ix_tup (pv 1) (pv 2) (fun _ _ => rfl)) (by first | rfl | exact nomark _))))) (pss_one (ps_ret pe_bl)) pss_nil)))
      (pss_one (ps_ret (pe_and (pe_c c__law_is_int hr (by decide) (by rfl) (pa_cons (pe_ix ix_tup (pv 0) (pe_un un_neg pe_int) (fun _ _ => rfl)) pa_nil)) (pe_one (pe_cmpR op_eq (pe_ix ix_tup (pv 0) (pe_un un_neg pe_int) (fun _ _ => rfl)) (pe_ix ix_tup (pv 1) (pe_un un_neg pe_int) (fun _ _ => rfl)) (by first | rfl | exact nomark _)))))))), ?_⟩
    have hlen : (zs.map V.str ++ [V.int i]).length = zs.length + 1 := by rw [List.length_append, List.length_map]; rfl
    walk_at "go"
    refine ⟨V.ref a, .ty "tuple", .type "tuple", .type "tuple", true, rfl, .ty _, tyT hA, kit_ty (by decide +kernel), ?_⟩
    walk_at "go"
    have en : ((((zs.map V.str ++ [V.int i]).length : Nat) : Int) - 1).toNat = zs.length := by rw [hlen]; omega
    rw [en]
    refine for_rangeD (lo := 0) (n := zs.length) (fun j σ H2 => H = H2 ∧ ∃ o, σ = [some (.ref a), some (.ref b), o]) ⟨rfl, _, rfl⟩ ?_ ?_
    · rintro k _ _ hk ⟨rfl, o, rfl⟩
      have ha := at_row (i := i) hk
      walk_at "go"
      refine ⟨_, _, _, _, rfl, rfl, hA, ha, ?_⟩
      walk_at "go"
      refine ⟨_, _, _, _, rfl, rfl, hA, ha, ?_⟩
      walk_at "go"
      refine ⟨_, _, _, _, rfl, rfl, hB, ha, ?_⟩
      walk_at "go"
      exact ⟨_, rfl⟩
    · rintro _ _ ⟨rfl, o, rfl⟩
      have hl := atI_last (zs.map V.str) (V.int i)
      dsimp only [tRet]
      refine andV true true (fun Q' q' => ?_) (fun Q' q' => ?_) q
      · walk_at "go"
        refine ⟨_, _, _, _, rfl, rfl, hA, hl, ?_⟩
        walk_at "go"
        exact q'
      · walk_at "go"
        refine ⟨_, _, _, _, rfl, rfl, hA, hl, ?_⟩
        walk_at "go"
        refine ⟨_, _, _, _, rfl, rfl, hB, hl, ?_⟩
        walk_at "go"
        exact qT rfl q'
theorem c__law_agrees (D : Def K mg "_law_agrees" s__law_agrees ["names", "model"]) (T : Tp w K mg cs) (c__law_row_fits : Cal P w K mg base CX0 2 "_law_row_fits" (sp__law_row_fits K cs)) (c_lookup : Cal P w K mg base CX0 1 "lookup" (sp_lookup K cs)) : Cal P w K mg base CX0 3 "_law_agrees" (sp__law_agrees K cs) := by
  refine D.ok sc__law_agrees (fun vs H Q E h => ?_) (fun f cdv A outer s H vs Q E hr h => ?_)
  · obtain ⟨a, b, xs, ys, rfl, _⟩ := h; rfl
  · obtain ⟨a, b, xs, ys, rfl, hN, hY, exy, hk2, hnb, hx, q⟩ := h
    refine ⟨_, (pss_cons (ps_if (PW.pt (pw_or (pt_not (pt_val (pe_callB call_isi (by rfl) T.m_isinstance (by decide +kernel) (pa_cons (pv 0) (pa_cons (pe_bltn (v := .ty "list") (u := .type "list") (by rfl) T.m_list (by decide +kernel) rfl) pa_nil))))) (pw_or1 (pt_cmpR op_ne (pe_callB call_len_seq (by rfl) T.m_len PySem.boot_len (pa_cons (pv 0) pa_nil)) (pe_callB call_len_seq (by rfl) T.m_len PySem.boot_len (pa_cons (pv 1) pa_nil)) (by first | rfl | exact nomark _))))) (pss_one (ps_ret pe_bl)) pss_nil)
      (pss_cons (ps_for PassesOwn.never rfl (pi_range1 (by rfl) T.m_range (pa_cons (pe_callB call_len_seq (by rfl) T.m_len PySem.boot_len (pa_cons (pv 1) pa_nil)) pa_nil)) (pg_name (i := 2) sc__law_agrees.nd rfl (by first | exact Or.inl rfl | exact Or.inr rfl)) (pss_cons (ps_if (pt_not (pt_val (pe_c c__law_row_fits hr (by decide) (by rfl) (pa_cons (pe_ix ix_list (pv 0) (pv 2) (fun _ _ => rfl)) (pa_cons (pe_ix ix_list (pv 1) (pv 2) (fun _ _ => rfl)) pa_nil))))) (pss_one (ps_ret pe_bl)) pss_nil)
      (pss_cons (ps_if (pt_not (pt_val (pe_c c__law_row_fits hr (by decide) (by rfl) (pa_cons (pe_c c_lookup hr (by decide) (by rfl) (pa_cons (pv 0) (pa_cons (pe_ix ix_tup (pe_ix ix_list (pv 1) (pv 2) (fun _ _ => rfl)) pe_int (fun _ _ => rfl)) (pa_cons (pe_ix ix_tup (pe_ix ix_list (pv 1) (pv 2) (fun _ _ => rfl)) pe_int (fun _ _ => rfl)) pa_nil)))) (pa_cons (pe_slice sl_tup (pe_ix ix_list (pv 1) (pv 2) (fun _ _ => rfl)) (po_some pe_int) po_none) pa_nil))))) (pss_one (ps_ret pe_bl)) pss_nil)
      (pss_one (ps_if (pt_cmpR op_notN (pe_c c_lookup hr (by decide) (by rfl) (pa_cons (pv 0) (pa_cons pe_str (pa_cons (pe_ix ix_tup (pe_ix ix_list (pv 1) (pv 2) (fun _ _ => rfl)) pe_int (fun _ _ => rfl)) pa_nil)))) pe_non (by first | rfl | exact nomark _)) (pss_one (ps_ret pe_bl)) pss_nil)))))
      (pss_one (ps_ret pe_bl)))), ?_⟩
    have hNa := hN.1
    have exl : xs.length = ys.length := by
      have := congrArg List.length exy
      unfold rowsOf at this
      rw [List.length_map, List.length_map] at this
      exact this
    have hS : SqL K H a (rf xs) := SqL.of hNa
    have hSb : SqL K H b (rf ys) := hY.1
    have at_rf : ∀ {rs : List AR} {j : Nat} {r : AR}, rs[j]? = some r → atI (rf rs) (0 + (j : Int)) = some (.ref r.1) := fun {rs j r} h => by
      rw [Int.zero_add]
      refine atI_nat ?_
      unfold rf
      rw [List.getElem?_map, h]; rfl
    walk_at "go"
    simp only [rf_len]
    refine ifNe (congrArg Int.ofNat exl) ?_
    iterate 4 walk_at "go1"
    simp only [rf_len, Int.toNat_natCast]
    refine ⟨by omega, for_rangeD (lo := 0) (n := ys.length) (fun j σ H2 => Same H H2 ∧ ∃ o, σ = [some (.ref a), some (.ref b), o]) ⟨Same.refl _, _, rfl⟩ ?_ ?_⟩
    · rintro j _ H2 hj ⟨s2, o, rfl⟩
      obtain ⟨y, hy'⟩ : ∃ y, ys[j]? = some y := ⟨_, List.getElem?_eq_getElem hj⟩
      obtain ⟨x, hx'⟩ : ∃ x, xs[j]? = some x := ⟨_, List.getElem?_eq_getElem (by omega)⟩
      have exy2 : x.2 = y.2 := by
        have h1 : (rowsOf xs)[j]? = some x.2 := by unfold rowsOf; rw [List.getElem?_map, hx']; rfl
        have h2 : (rowsOf ys)[j]? = some y.2 := by unfold rowsOf; rw [List.getElem?_map, hy']; rfl
        rw [exy, h2] at h1
        exact (Option.some.inj h1).symm
      have hTx := sqT_same s2 (hN.2 x (List.mem_of_getElem? hx')).1
      have hTy := sqT_same s2 (hY.2 y (List.mem_of_getElem? hy')).1
      have hok := (hY.2 y (List.mem_of_getElem? hy')).2
      have hS2 := s2.seq hS
      have hSb2 := s2.seq hSb
      rw [exy2] at hTx
      have hTy2 : SqT K H2 y.1 [.str y.2.m, .str y.2.n, .str y.2.k, .int y.2.i] := hTy
      have hjy : (rowsOf ys)[j]? = some y.2 := by unfold rowsOf; rw [List.getElem?_map, hy']; rfl
      have hfind : find1 (rowsOf xs) y.2.m y.2.n = some y.2 := by rw [exy]; exact find_key hk2 hjy
      have hR2 : RL K H2 a xs := ⟨hS2, fun z hz => ⟨sqT_same s2 (hN.2 z hz).1, (hN.2 z hz).2⟩⟩
      have hbang : find1 (rowsOf xs) "!" y.2.n = none := by rw [exy]; exact find_bang hnb _
      walk_at "go"
      refine ⟨_, _, _, _, rfl, rfl, hS2, at_rf hx', ?_⟩
      walk_at "go"
      refine ⟨_, _, _, _, rfl, rfl, hSb2, at_rf hy', ?_⟩
      walk_at "go"
      refine ⟨x.1, y.1, [y.2.m, y.2.n, y.2.k], y.2.i, rfl, hTx, hTy, by show 3 ≤ 3; decide, ?_⟩
      walk_at "go"
      refine ⟨_, _, _, _, rfl, rfl, hSb2, at_rf hy', ?_⟩
      walk_at "go"
      refine ⟨_, _, _, _, rfl, rfl, hSb2, at_rf hy', ?_⟩
      walk_at "go"
      refine ⟨a, y.2.m, y.2.n, xs, rfl, hR2, hok.1, hok.2, by omega, fun z => ?_, fun r z p H3 s3 k3 => ?_⟩
      · rw [show xs.map (·.2) = rowsOf xs from rfl, hfind] at z; cases z
      rw [show xs.map (·.2) = rowsOf xs from rfl, hfind] at z
      cases z
      have hSb3 := s3.seq hSb2
      have hTy3 : SqT K H3 y.1 [.str y.2.m, .str y.2.n, .str y.2.k, .int y.2.i] := sqT_same s3 hTy
      walk_at "go"
      refine ⟨_, _, _, _, rfl, rfl, hSb3, at_rf hy', ?_⟩
      walk_at "go"
      refine ⟨_, _, rfl, hTy3, by show ¬ (HT.sIx 4 0 (some 2) = 0 ∧ HT.sIx 4 4 none = 4); decide, fun p2 h2 => ?_⟩
      generalize x1 : upd H3 p2 _ = H4
      obtain ⟨s4, k4⟩ : Same H3 H4 ∧ H4 p2 = some (.tup [.str y.2.k, .int y.2.i]) := by subst x1; exact ⟨Same.new h2, by rw [upd_same]; rfl⟩
      have hSb4 := s4.seq hSb3
      have hTy4 : SqT K H4 y.1 [.str y.2.m, .str y.2.n, .str y.2.k, .int y.2.i] := sqT_same s4 hTy3
      have s24 := s3.trans s4
      walk_at "go"
      refine ⟨p, p2, [y.2.k], y.2.i, rfl, SqT.of (s4 _ _ k3), SqT.of k4, by show 1 ≤ 3; decide, ?_⟩
      walk_at "go"
      refine ⟨_, _, _, _, rfl, rfl, hSb4, at_rf hy', ?_⟩
      walk_at "go"
      refine ⟨a, "!", y.2.n, xs, rfl, hR2.same s24, (by unfold Ok1; decide +kernel), hok.2, by omega, fun _ H5 s5 => ?_, fun r z => ?_⟩
      · walk_at "go"
        exact ⟨s2.trans (s24.trans s5), _, rfl⟩
      · rw [show xs.map (·.2) = rowsOf xs from rfl, hbang] at z; cases z
    · rintro _ H2 ⟨s2, o, rfl⟩
      walk_at "go"
      exact q _ s2
theorem c__law_deed (D : Def K mg "_law_deed" s__law_deed ["names", "deed"]) (T : Tp w K mg cs) (c_put_name : Cal P w K mg base (L2.CX P w) 4 "put_name" (sp_put_name K cs)) (c_publish_items : Cal P w K mg base (L2.CX P w) 4 "publish_items" (sp_publish_items K cs)) : Cal P w K mg base CX0 5 "_law_deed" (sp__law_deed K cs) := by
  refine D.ok sc__law_deed (fun vs H Q E h => ?_) (fun f cdv A outer s H vs Q E hr h => ?_)
  · obtain ⟨a, d, l, xs, rs, wd, m, rfl, _⟩ := h; rfl
  · obtain ⟨a, d, l, xs, rs, wd, m, rfl, hN, hx, hT, hR, hrl, hrm, hwd, qF, qP⟩ := h
    refine ⟨_, (pss_cons (ps_try_as (i := 2) (tb := _) (ts := _) (Wout := fun _ _ _ _ => False) rfl rfl sc__law_deed.nd rfl rfl ⟨rfl, by decide, .inl T.g_LimitReached⟩ takes0 (fun W pn xe tk po => (pss_one (ps_if (pt_cmpR op_eq (pe_ix ix_tupTr (pv 1) pe_int (fun _ _ => rfl)) pe_str (by first | rfl | exact nomark _)) (pss_cons (ps_set (i := 3) sc__law_deed.nd rfl (by first | exact Or.inl rfl | exact Or.inr rfl) (pe_ix ix_listTr (pe_ix ix_tupTr (pv 1) pe_int (fun _ _ => rfl)) pe_int (fun _ _ => rfl)))
      (pss_one (ps_expr (pe_cS c_put_name hr (by decide) (by rfl) (fun σ => passAt tk σ) (pa_cons (pv 0) (pa_cons (pe_ix ix_tupTr (pv 3) pe_int (fun _ _ => rfl)) (pa_cons (pe_ix ix_tupTr (pv 3) pe_int (fun _ _ => rfl)) (pa_cons (pe_ix ix_tupTr (pv 3) pe_int (fun _ _ => rfl)) (pa_cons (pe_ix ix_tupTr (pv 3) pe_int (fun _ _ => rfl)) pa_nil))))))))) (pss_one (ps_expr (pe_cS c_publish_items hr (by decide) (by rfl) (fun σ => passAt tk σ) (pa_cons (pv 0) (pa_cons (pe_ix ix_tupTr (pv 1) pe_int (fun _ _ => rfl)) (pa_cons (pe_lc (X := Cx.tr (cxOf CX0 P w K mg base ["names", "deed", "e", "row"] "_law_deed" (defScope s__law_deed) f cdv A outer s H E).nox pn xe) (own := [("row", 3)]) (g := gName 3) (tt := tYes) (by rfl) sc__law_deed.nd (pi_listT (X := (cxOf CX0 P w K mg base ["names", "deed", "e", "row"] "_law_deed" (defScope s__law_deed) f cdv A outer s H E).nox) (pn := pn) (xe := xe) (pe_ix ix_tupTr (pv 1) pe_int (fun _ _ => rfl))) (blkOk_by (own := [("row", 3)]) (N := ["names", "deed", "e", "row"]) (sc := defScope s__law_deed) (by decide +kernel)) (fun _ _ _ _ _ => (pg_name (i := 3) sc__law_deed.nd rfl (by first | exact Or.inl rfl | exact Or.inr rfl))) (fun _ _ _ _ _ => pts_nil) (fun _ _ _ _ _ => (pe_slice sl_tupBT (pv 3) (po_some pe_int) po_none))) pa_nil))))))))) (fun a oe cls d pn hz hf => (pss_one (ps_ret (pe_and (pe_callB (call_isX hz hf T.e_LimitReached) (by rfl) T.m_isinstance (by decide +kernel) (pa_cons (pv 2) (pa_cons (pe_glob (v := .ref cs.C_HostError) (by rfl) T.g_HostError rfl) pa_nil))) (pe_and (pe_callB (call_isX hz hf T.e_LimitReached) (by rfl) T.m_isinstance (by decide +kernel) (pa_cons (pv 2) (pa_cons (pe_bltn (v := .ty "ValueError") (u := .type "ValueError") (by rfl) T.m_ValueError PyProof.Rows.Boot.«ValueError» rfl) pa_nil))) (pe_one (pe_cmpR op_eq (pe_xf T.e_LimitReached.xf T.no_LimitReached_what hz hf (pv 2)) pe_str (by first | rfl | exact nomark _)))))))))
      (pss_one (ps_ret pe_non))), ?_⟩
    walk_at "go"
    rcases hwd with ⟨rfl, r, rfl⟩ | rfl
    · refine ifS rfl ?_
      obtain ⟨kr, hok⟩ := hR.2 r (List.mem_singleton.mpr rfl)
      have kr' : SqT K H r.1 [.str r.2.m, .str r.2.n, .str r.2.k, .int r.2.i] := kr
      have hl1 := hR.1
      walk_at "go"
      refine ⟨a, xs, r.2, rfl, hN, hx, hok, fun hf => ?_, fun hl zs H' ez sb hz => ?_⟩
      · intro d2 Hf s2 kd
        refine ⟨true, T.exm_LimitReached_LimitReached, fun _ ea hea => ?_, fun z => Bool.noConfusion z⟩
        walk_at "go"
        refine ⟨_, _, true, d2, _, rfl, rfl, rfl, kd, rfl, fun u hu => hu, T.kit_LimitReached_HostError, ?_⟩
        walk_at "go"
        refine ⟨_, _, true, d2, _, rfl, rfl, rfl, kd, rfl, fun u hu => hu, T.kit_LimitReached_VE, ?_⟩
        walk_at "go"
        refine ⟨d2, _, _, rfl, kd, rfl, ?_⟩
        walk_at "go"
        refine qTS rfl ?_
        exact qF hf _ s2
      · walk_at "go"
        exact qP hl zs H' ez sb hz
    · refine ifSN (by decide +kernel) ?_
      walk_at "go"
      refine ⟨⟨_, hR.1⟩, fun D hD => ?_⟩
      refine lc_list (xs := rf rs) (fun j H3 => Same H H3 ∧ ∃ zs : List AR, rowsOf zs = rowsOf (rs.take j) ∧ H3 D = some (.lst (rf zs)) ∧ ∀ z ∈ zs, SqT K H3 z.1 (tailV z.2) ∧ RowOk z.2) ⟨Same.new hD, [], rfl, upd_same, fun _ z => nomatch z⟩ (fun j H3 _ h => h.1.seq hR.1) ?_ ?_
      · rintro j x H3 hxj ⟨s3, zs, ez, k3, hz⟩
        obtain ⟨y, hy', hym, rfl⟩ := rf_at hxj
        have hj : j < rs.length := (List.getElem?_eq_some_iff.mp hy').1
        obtain ⟨hTy, hoky⟩ := hR.2 y hym
        have hTy3 : SqT K H3 y.1 [.str y.2.m, .str y.2.n, .str y.2.k, .int y.2.i] := sqT_same s3 hTy
        have hzl : zs.length = j := by
          have := congrArg List.length ez
          unfold rowsOf at this
          rw [List.length_map, List.length_map, List.length_take] at this
          omega
        refine ⟨rfl, ?_⟩
        walk_at "go"
        refine ⟨_, _, rfl, hTy3, by show ¬ (HT.sIx 4 0 (some 1) = 0 ∧ HT.sIx 4 4 none = 4); decide, fun p1 h1 => ?_⟩
        generalize x1 : upd H3 p1 _ = H4
        obtain ⟨s4, k4⟩ : Same H3 H4 ∧ H4 p1 = some (.tup (tailV y.2)) := by subst x1; exact ⟨Same.new h1, by rw [upd_same]; rfl⟩
        refine ⟨_, s4 _ _ k3, by rw [rf_len]; exact small64' (by omega), fun c o e => ?_, zs ++ [(p1, y.2)], ?_, ?_, ?_⟩
        · rw [upd_ne (ne_of_none e hD)]; exact s4 _ _ (s3 _ _ e)
        · rw [List.take_add_one, hy']
          unfold rowsOf at ez ⊢
          rw [List.map_append, List.map_append, ez]; rfl
        · rw [upd_same, ← rf_snoc]
        · have hk4 : H4 D = some (.lst (rf zs)) := s4 _ _ k3
          have sb : ∀ c o, c ≠ D → H4 c = some o → upd H4 D (.lst (rf zs ++ [V.ref p1])) c = some o := fun c o n e => by rw [upd_ne n]; exact e
          intro z hzm
          rcases List.mem_append.mp hzm with hzm | hzm
          · exact ⟨sqT_but hk4 sb (sqT_same s4 (hz z hzm).1), (hz z hzm).2⟩
          · rw [List.mem_singleton] at hzm
            subst hzm
            exact ⟨sqT_but hk4 sb (SqT.of k4), hoky⟩
      · rintro H3 ⟨s3, zs, ez, k3, hz⟩
        rw [rf_len, List.take_length] at ez
        have hN3 : RN K H3 a xs := RN.same s3 hN
        have hzl := rows_len ez
        have hzm : ∀ z ∈ zs, z.2.m = m := fun z hzm => by
          have h1 : z.2 ∈ rowsOf zs := List.mem_map.mpr ⟨z, hzm, rfl⟩
          rw [ez] at h1
          obtain ⟨r, hr1, hr2⟩ := List.mem_map.mp h1
          rw [← hr2]; exact hrm r hr1
        refine ⟨a, D, m, xs, zs, rfl, hN3, hx, by omega, SqL.of k3, fun z hz' => ⟨(hz z hz').1, (hz z hz').2, hzm z hz'⟩, ?_⟩
        rw [ez]
        refine ⟨fun hf => ?_, fun hl zs' H' ez' sb hz' => ?_⟩
        · intro d2 Hf s2 kd
          refine ⟨true, T.exm_LimitReached_LimitReached, fun _ ea hea => ?_, fun z => Bool.noConfusion z⟩
          walk_at "go"
          refine ⟨_, _, true, d2, _, rfl, rfl, rfl, kd, rfl, fun u hu => hu, T.kit_LimitReached_HostError, ?_⟩
          walk_at "go"
          refine ⟨_, _, true, d2, _, rfl, rfl, rfl, kd, rfl, fun u hu => hu, T.kit_LimitReached_VE, ?_⟩
          walk_at "go"
          refine ⟨d2, _, _, rfl, kd, rfl, ?_⟩
          walk_at "go"
          refine qTS rfl ?_
          exact qF hf _ (s3.trans s2)
        · walk_at "go"
          exact qP hl zs' H' ez' (fun c o n e => sb c o n (s3 _ _ e)) hz'
theorem c_law {f : Addr} {fd : FuncData} (D : L2.Fun K "law" "law" s_law f fd) (T : Tp w K mg cs) (c__law_tape : Cal P w K mg base CX0 1 "_law_tape" (sp__law_tape K cs)) (c__law_draw : Cal P w K mg base CX0 1 "_law_draw" (sp__law_draw K cs)) (c__law_word : Cal P w K mg base CX0 2 "_law_word" (sp__law_word K cs)) (c__law_deed : Cal P w K mg base CX0 5 "_law_deed" (sp__law_deed K cs)) (c_put_name : Cal P w K mg base (L2.CX P w) 4 "put_name" (sp_put_name K cs)) (c__law_put : Cal P w K mg base CX0 1 "_law_put" (sp__law_put K cs)) (c__law_agrees : Cal P w K mg base CX0 3 "_law_agrees" (sp__law_agrees K cs)) (c__law_item : Cal P w K mg base CX0 3 "_law_item" (sp__law_item K cs)) : FnOk P w K mg base CX0 6 f fd ["script"] (sp_law K cs) := by
  refine D.ok sc_law (fun vs H Q E h => ?_) (fun cdv A outer s H vs Q E hr h => ?_)
  · obtain ⟨a, ns, rfl, _⟩ := h; rfl
  · obtain ⟨a, ns, rfl, hS, hlen, q⟩ := h
    refine ⟨_, (pss_cons (ps_set (i := 1) sc_law.nd rfl (by first | exact Or.inl rfl | exact Or.inr rfl) (pe_c c__law_tape hr (by decide) (by rfl) (pa_cons (pv 0) pa_nil)))
      (pss_cons (ps_set (i := 2) sc_law.nd rfl (by first | exact Or.inl rfl | exact Or.inr rfl) (pe_lst pa_nil))
      (pss_cons (ps_set (i := 3) sc_law.nd rfl (by first | exact Or.inl rfl | exact Or.inr rfl) (pe_lst pa_nil))
      (C8.pss_cut (ps_if (pt_cmpR op_eq (pe_c c__law_draw hr (by decide) (by rfl) (pa_cons (pv 1) (pa_cons pe_int (pa_cons pe_int pa_nil)))) pe_int (by first | rfl | exact nomark _)) (pss_one (ps_for PassesOwn.never rfl (pi_range1 (by rfl) T.m_range (pa_cons pe_int pa_nil)) (pg_name (i := 4) sc_law.nd rfl (by first | exact Or.inl rfl | exact Or.inr rfl)) (pss_cons (ps_expr (pe_cE c_put_name hr (by decide) passL (by rfl) (pa_cons (pv 2) (pa_cons (pe_op op_add_str pe_str (pe_callTy call_str_int (by rfl) T.m_str (by decide +kernel) (pa_cons (pe_op op_mod (pv 4) pe_int) pa_nil))) (pa_cons (pe_op op_add_str pe_str (pe_callTy call_str_int (by rfl) T.m_str (by decide +kernel) (pa_cons (pv 4) pa_nil))) (pa_cons pe_str (pa_cons (pv 4) pa_nil)))))))
      (pss_one (ps_expr (pe_bm PySem.F.plainAttrs_list PySem.F.slot_list_append PySem.F.type_list_append mt_append (pv 3) (pa_cons (pe_tup (pa_cons (pe_op op_add_str pe_str (pe_callTy call_str_int (by rfl) T.m_str (by decide +kernel) (pa_cons (pe_op op_mod (pv 4) pe_int) pa_nil))) (pa_cons (pe_op op_add_str pe_str (pe_callTy call_str_int (by rfl) T.m_str (by decide +kernel) (pa_cons (pv 4) pa_nil))) (pa_cons pe_str (pa_cons (pv 4) pa_nil))))) pa_nil))))))) pss_nil)
      (pss_cons (ps_for PassesOwn.never rfl (pi_range1 (by rfl) T.m_range (pa_cons (pe_c c__law_draw hr (by decide) (by rfl) (pa_cons (pv 1) (pa_cons pe_int (pa_cons pe_int pa_nil)))) pa_nil)) (pg_name (i := 4) sc_law.nd rfl (by first | exact Or.inl rfl | exact Or.inr rfl)) (pss_cons (ps_set (i := 5) sc_law.nd rfl (by first | exact Or.inl rfl | exact Or.inr rfl) (pe_op op_add pe_int (pe_op op_mul pe_int (pv 4))))
      (pss_cons (ps_set (i := 6) sc_law.nd rfl (by first | exact Or.inl rfl | exact Or.inr rfl) (pe_c c__law_word hr (by decide) (by rfl) (pa_cons (pv 1) (pa_cons (pv 5) pa_nil))))
      (pss_cons (ps_set (i := 7) sc_law.nd rfl (by first | exact Or.inl rfl | exact Or.inr rfl) pe_int)
      (pss_cons (ps_set (i := 8) sc_law.nd rfl (by first | exact Or.inl rfl | exact Or.inr rfl) pe_str)
      (C8.pss_cut (ps_if (pt_cmpR op_eq (pe_c c__law_draw hr (by decide) (by rfl) (pa_cons (pv 1) (pa_cons (pe_op op_add (pv 5) pe_int) (pa_cons pe_int pa_nil)))) pe_int (by first | rfl | exact nomark _)) (pss_cons (ps_set (i := 7) sc_law.nd rfl (by first | exact Or.inl rfl | exact Or.inr rfl) (pe_c c__law_draw hr (by decide) (by rfl) (pa_cons (pv 1) (pa_cons (pe_op op_add (pv 5) pe_int) (pa_cons pe_int pa_nil)))))
      (pss_one (ps_set (i := 8) sc_law.nd rfl (by first | exact Or.inl rfl | exact Or.inr rfl) pe_str))) pss_nil)
      (pss_cons (ps_set (i := 9) sc_law.nd rfl (by first | exact Or.inl rfl | exact Or.inr rfl) (pe_lst pa_nil))
      (pss_cons (ps_for PassesOwn.never rfl (pi_range1 (by rfl) T.m_range (pa_cons (pv 7) pa_nil)) (pg_name (i := 10) sc_law.nd rfl (by first | exact Or.inl rfl | exact Or.inr rfl)) (pss_one (ps_expr (pe_bm PySem.F.plainAttrs_list PySem.F.slot_list_append PySem.F.type_list_append mt_append (pv 9) (pa_cons (pe_op op_catT (pe_tup (pa_cons (pv 6) pa_nil)) (pe_c c__law_item hr (by decide) (by rfl) (pa_cons (pv 1) (pa_cons (pe_op op_add (pe_op op_add (pv 5) pe_int) (pe_op op_mul pe_int (pv 10))) pa_nil)))) pa_nil)))))
      (pss_cons (ps_set (i := 11) sc_law.nd rfl (by first | exact Or.inl rfl | exact Or.inr rfl) (pe_callTy call_list_of (by rfl) T.m_list (by decide +kernel) (pa_cons (pv 3) pa_nil)))
      (pss_cons (ps_for PassesOwn.never rfl (pi_list (pv 9)) (pg_name (i := 12) sc_law.nd rfl (by first | exact Or.inl rfl | exact Or.inr rfl)) (pss_one (ps_set (i := 11) sc_law.nd rfl (by first | exact Or.inl rfl | exact Or.inr rfl) (pe_c c__law_put hr (by decide) (by rfl) (pa_cons (pv 11) (pa_cons (pv 12) pa_nil))))))
      (pss_cons (ps_set (i := 13) sc_law.nd rfl (by first | exact Or.inl rfl | exact Or.inr rfl) (pe_cmpR op_gt (pe_callB call_len_seq (by rfl) T.m_len PySem.boot_len (pa_cons (pv 11) pa_nil)) pe_int (by first | rfl | exact nomark _)))
      (pss_cons (ps_set (i := 14) sc_law.nd rfl (by first | exact Or.inl rfl | exact Or.inr rfl) (pe_c c__law_deed hr (by decide) (by rfl) (pa_cons (pv 2) (pa_cons (pe_tup (pa_cons (pv 8) (pa_cons (pv 9) (pa_cons (pv 6) pa_nil)))) pa_nil))))
      (pss_cons (ps_if (PW.pt (pw_or (PW.pt (pw_and (pt_val (pv 13)) (pw_and1 (pt_cmpR op_notT (pv 14) pe_bl (by first | rfl | exact nomark _))))) (pw_or1 (PW.pt (pw_and (pt_not (pt_val (pv 13))) (pw_and1 (pt_cmpR op_notN (pv 14) pe_non (by first | rfl | exact nomark _)))))))) (pss_one (ps_ret pe_bl)) pss_nil)
      (C8.pss_cut (ps_if (pt_not (pt_val (pv 13))) (pss_one (ps_set (i := 3) sc_law.nd rfl (by first | exact Or.inl rfl | exact Or.inr rfl) (pv 11))) pss_nil)
      (pss_one (ps_if (pt_not (pt_val (pe_c c__law_agrees hr (by decide) (by rfl) (pa_cons (pv 2) (pa_cons (pv 3) pa_nil))))) (pss_one (ps_ret pe_bl)) pss_nil))))))))))))))))
      (pss_one (ps_ret pe_bl))))))), ?_⟩
    walk_at "go"
    refine ⟨a, ns, rfl, hS, hlen, fun ts hN hT p H1 s1 _ k1 => ?_⟩
    walk_at "go"
    intro aN hA
    generalize x2 : upd H1 aN _ = H2
    obtain ⟨s2, k2⟩ : Same H1 H2 ∧ H2 aN = some (.lst (rf [])) := by subst x2; exact ⟨Same.new hA, upd_same⟩
    walk_at "go"
    intro aM hB
    generalize x3 : upd H2 aM _ = H3
    obtain ⟨s3, k3⟩ : Same H2 H3 ∧ H3 aM = some (.lst (rf [])) := by subst x3; exact ⟨Same.new hB, upd_same⟩
    have nBA : aM ≠ aN := fun z => by rw [z, k2] at hB; cases hB
    have npA : p ≠ aN := fun z => by rw [← z, k1] at hA; cases hA
    have npB : p ≠ aM := fun z => by rw [← z, s2 _ _ k1] at hB; cases hB
    have a0 : Ags K H3 p aN aM ts [] [] := ⟨⟨s3 _ _ k2, fun _ z => nomatch z⟩, ⟨k3, fun _ z => nomatch z⟩, s3 _ _ (s2 _ _ k1), rfl, List.Pairwise.nil, (fun _ z => nomatch z), by decide, nBA, npA⟩
    clear x2 x3
    refine ⟨fun σ H4 => ∃ (xs ys : List AR) (k : Option V), Ags K H4 p aN aM ts xs ys ∧ σ = [some (.ref a), some (.ref p), some (.ref aN), some (.ref aM), k, none, none, none, none, none, none, none, none, none, none], ?_, ?_⟩
    · walk_at "go"
      refine ⟨p, ts, 0, 3, rfl, SqL.of a0.t, ⟨by decide, by decide⟩, by decide, fun d d0 d1 => ?_⟩
      walk_at "go"
      refine ite2 (fun c => ?_) (fun c => ?_)
      · walk_at "go"
        refine for_rangeD (lo := 0) (n := 52) (fun i σ H4 => ∃ (xs ys : List AR) (k : Option V), rowsOf ys = rows0 i ∧ Ags K H4 p aN aM ts xs ys ∧ σ = [some (.ref a), some (.ref p), some (.ref aN), some (.ref aM), k, none, none, none, none, none, none, none, none, none, none]) ⟨[], [], _, rfl, a0, rfl⟩ ?_ ?_
        · rintro i _ H4 hi ⟨xs, ys, k, ey, g, rfl⟩
          have hly : ys.length = i := by
            have := congrArg List.length ey
            rw [rows0_len] at this
            unfold rowsOf at this
            rw [List.length_map] at this; exact this
          have hlx : xs.length = i := by rw [rows_len g.e]; exact hly
          have hok : RowOk (row0 i) := ⟨(row0_ok i hi).1, (row0_ok i hi).2.1⟩
          have hput : [row0 i].foldl putR (rowsOf xs) = rows0 (i + 1) := by rw [g.e, ey]; exact rows0_put hi
          have e3 : (i : Int) % 3 = ((i % 3 : Nat) : Int) := by omega
          rw [Int.zero_add]
          walk_at "go"
          refine ⟨log_small (by omega) (by omega), ?_⟩
          rw [e3]
          walk_at "go"
          refine ⟨cat_len (by decide +kernel) (by omega), ?_⟩
          walk_at "go"
          refine ⟨log_small (by omega) (by omega), ?_⟩
          walk_at "go"
          refine ⟨cat_len (by decide +kernel) (by omega), ?_⟩
          walk_at "go"
          refine ⟨aN, xs, row0 i, rfl, g.n, by omega, hok, fun hf => absurd hf (by rw [hput, rows0_len]; omega), fun _ zs H5 ez sb hz => ?_⟩
          have gm5 := g.m.but g.n.1 g.ne sb
          have gt5 := sb _ _ g.np g.t
          walk_at "go"
          refine ⟨.inl ⟨rfl, _, SqL.of gm5.1⟩, ?_⟩
          walk_at "go"
          refine ⟨log_small (by omega) (by omega), ?_⟩
          rw [e3]
          walk_at "go"
          refine ⟨cat_len (by decide +kernel) (by omega), ?_⟩
          walk_at "go"
          refine ⟨log_small (by omega) (by omega), ?_⟩
          walk_at "go"
          refine ⟨cat_len (by decide +kernel) (by omega), ?_⟩
          walk_at "go"
          intro p6 h6
          generalize x6 : upd H5 p6 _ = H6
          obtain ⟨s6, k6⟩ : Same H5 H6 ∧ H6 p6 = some (.tup (rowV (row0 i))) := by subst x6; exact ⟨Same.new h6, upd_same⟩
          have gm6 := gm5.same s6
          have gn6 := hz.same s6
          refine ⟨_, _, _, rfl, rfl, gm6.1, (by rw [rf_len]; exact small64' (by omega)), ?_⟩
          have gm7 := gm6.push (SqT.of k6) hok
          have gn7 : RN K (upd H6 aM (.lst (rf ys ++ [V.ref p6]))) aN zs := gn6.but gm6.1 (fun z => g.ne z.symm) fun c o n e => by rw [upd_ne n]; exact e
          have ey7 : rowsOf (ys ++ [(p6, row0 i)]) = rows0 (i + 1) := by
            unfold rowsOf at ey ⊢
            rw [List.map_append, ey]
            unfold rows0
            rw [List.range_succ, List.map_append]; rfl
          have hky := rows0_key (i + 1) (by omega)
          exact ⟨zs, ys ++ [(p6, row0 i)], _, ey7, ⟨gn7, gm7, (by rw [upd_ne npB]; exact s6 _ _ gt5), by rw [ez, ey7, hput], by rw [ey7]; exact hky.1, by rw [ey7]; exact hky.2, by rw [List.length_append, List.length_singleton]; omega, g.ne, g.np⟩, rfl⟩
        · rintro _ H4 ⟨xs, ys, k, ey, g, rfl⟩
          exact ⟨xs, ys, _, g, rfl⟩
      · exact ⟨[], [], _, a0, rfl⟩
    rintro _ H4 ⟨xs, ys, k, g, rfl⟩
    walk_at "go"
    refine ⟨p, ts, 1, 13, rfl, SqL.of g.t, ⟨by decide, by decide⟩, by decide, fun n n0 n1 => ?_⟩
    obtain ⟨n, rfl⟩ := Int.eq_ofNat_of_zero_le n0
    walk_at "go"
    refine for_rangeD (lo := 0) (n := n) (fun i σ H4 => ∃ (xs ys : List AR) (aM : Addr) (o4 o5 o6 o7 o8 o9 o10 o11 o12 o13 o14 : Option V), Ags K H4 p aN aM ts xs ys ∧ σ = [some (.ref a), some (.ref p), some (.ref aN), some (.ref aM), o4, o5, o6, o7, o8, o9, o10, o11, o12, o13, o14]) ⟨xs, ys, aM, _, _, _, _, _, _, _, _, _, _, _, g, rfl⟩ ?_ ?_
    · clear g xs ys k npB nBA a0 k3 hB
      clear aM
      rintro i _ H4 hi ⟨xs, ys, aM, o4, o5, o6, o7, o8, o9, o10, o11, o12, o13, o14, g, rfl⟩
      rw [Int.zero_add]
      walk_at "go"
      refine ⟨p, ts, 2 + 70 * (i : Int), rfl, SqL.of g.t, ⟨by omega, by omega⟩, fun z hz hzb => ?_⟩
      walk_at "go"
      refine ⟨fun σ H5 => H4 = H5 ∧ ∃ (n : Nat) (wd : Str), n ≤ 12 ∧ ((wd = "put" ∧ n = 1) ∨ wd = "publish") ∧ σ = [some (.ref a), some (.ref p), some (.ref aN), some (.ref aM), some (.int i), some (.int (2 + 70 * (i : Int))), some (.str z), some (.int (n : Int)), some (.str wd), o9, o10, o11, o12, o13, o14], ?_, ?_⟩
      · walk_at "go"
        refine ⟨p, ts, 2 + 70 * (i : Int) + 3, 3, rfl, SqL.of g.t, ⟨by omega, by omega⟩, by decide, fun d d0 d1 => ?_⟩
        walk_at "go"
        refine ite2 (fun c => ?_) (fun c => ?_)
        · walk_at "go"
          refine ⟨p, ts, 2 + 70 * (i : Int) + 4, 13, rfl, SqL.of g.t, ⟨by omega, by omega⟩, by decide, fun m m0 m1 => ?_⟩
          obtain ⟨m, rfl⟩ := Int.eq_ofNat_of_zero_le m0
          walk_at "go"
          exact ⟨m, _, by omega, .inr rfl, rfl⟩
        · exact ⟨rfl, 1, _, by omega, .inl ⟨rfl, rfl⟩, rfl⟩
      rintro _ _ ⟨rfl, n, wd, hn, hwd, rfl⟩
      walk_at "go"
      intro aR hR
      generalize x5 : upd H4 aR _ = H5
      obtain ⟨s5, k5⟩ : Same H4 H5 ∧ H5 aR = some (.lst (rf [])) := by subst x5; exact ⟨Same.new hR, upd_same⟩
      clear x5
      walk_at "go"
      refine for_rangeD (lo := 0) (n := n) (fun j σ H6 => Same H4 H6 ∧ ∃ (rs : List AR) (o10 : Option V), rs.length = j ∧ RN K H6 aR rs ∧ (∀ r ∈ rs, r.2.m = z) ∧ σ = [some (.ref a), some (.ref p), some (.ref aN), some (.ref aM), some (.int i), some (.int (2 + 70 * (i : Int))), some (.str z), some (.int (n : Int)), some (.str wd), some (.ref aR), o10, o11, o12, o13, o14]) ⟨s5, [], _, rfl, ⟨k5, fun _ z => nomatch z⟩, (fun _ z => nomatch z), rfl⟩ ?_ ?_
      · rintro j _ H6 hj ⟨s6, rs, o10, hrl, gr, hrm, rfl⟩
        rw [Int.zero_add]
        walk_at "go"
        refine ⟨.inl ⟨rfl, _, SqL.of gr.1⟩, ?_⟩
        walk_at "go"
        intro p1 h1
        generalize x7 : upd H6 p1 _ = H7
        obtain ⟨s7, k7⟩ : Same H6 H7 ∧ H7 p1 = some (.tup [.str z]) := by subst x7; exact ⟨Same.new h1, upd_same⟩
        have s47 := s6.trans s7
        walk_at "go"
        refine ⟨p, ts, 2 + 70 * (i : Int) + 5 + 5 * (j : Int), rfl, SqL.of (s47 _ _ g.t), ⟨by omega, by omega⟩, fun t H8 nm kk ii hnm s8 k8 => ?_⟩
        refine ⟨p1, t, [.str z], [.str nm, .str kk, .int ii], rfl, rfl, SqT.of (s8 _ _ k7), SqT.of k8, (fun z => nomatch z), by show 1 + 3 ≤ sizeLine; decide, (fun z => nomatch z), fun _ p2 h2 => ?_⟩
        generalize x9 : upd H8 p2 _ = H9
        obtain ⟨s9, k9⟩ : Same H8 H9 ∧ H9 p2 = some (.tup (rowV ⟨z, nm, kk, ii⟩)) := by subst x9; exact ⟨Same.new h2, by rw [upd_same]; rfl⟩
        have s69 := s7.trans (s8.trans s9)
        have gr9 := gr.same s69
        refine ⟨_, _, _, rfl, rfl, gr9.1, (by rw [rf_len]; exact small64' (by omega)), ?_⟩
        have gr10 := gr9.push (r := ⟨z, nm, kk, ii⟩) (SqT.of k9) ⟨hz, hnm⟩
        refine ⟨fun c o e => ?_, rs ++ [(p2, ⟨z, nm, kk, ii⟩)], _, ?_, gr10, fun r hr => ?_, rfl⟩
        · rw [upd_ne (ne_of_none e hR)]; exact s69 _ _ (s6 _ _ e)
        · rw [List.length_append, List.length_singleton]; omega
        · rcases List.mem_append.mp hr with hr | hr
          · exact hrm r hr
          · rw [List.mem_singleton] at hr; subst hr; rfl
      rintro _ H6 ⟨s6, rs, o10, hrl, gr, hrm, rfl⟩
      have g6n := g.n.same s6
      have g6m := g.m.same s6
      have g6t := s6 _ _ g.t
      walk_at "go"
      refine ⟨aM, _, rfl, .inl (SqL.of g6m.1), fun aD hD => ?_⟩
      generalize x7 : upd H6 aD _ = H7
      obtain ⟨s7, k7⟩ : Same H6 H7 ∧ H7 aD = some (.lst (rf ys)) := by subst x7; exact ⟨Same.new hD, upd_same⟩
      clear x7
      have gr7 := gr.same s7
      have nDN : aD ≠ aN := fun z => by rw [z, g6n.1] at hD; cases hD
      walk_at "go"
      refine ⟨⟨_, SqL.of gr7.1⟩, for_listD (xs := rf rs) (fun j σ H8 => Same H7 H8 ∧ ∃ (aD : Addr) (o12 : Option V), aD ≠ aN ∧ RN K H8 aD ((rs.take j).foldl putA ys) ∧ σ = [some (.ref a), some (.ref p), some (.ref aN), some (.ref aM), some (.int i), some (.int (2 + 70 * (i : Int))), some (.str z), some (.int (n : Int)), some (.str wd), some (.ref aR), o10, some (.ref aD), o12, o13, o14]) ⟨Same.refl _, aD, _, nDN, ⟨k7, (g6m.same s7).2⟩, rfl⟩ (fun j σ H8 _ h => SqL.of (h.1 _ _ gr7.1)) ?_ ?_⟩
      · rintro j x _ H8 hxj ⟨s8, aD, o12, nDN, gd, rfl⟩
        obtain ⟨r, hr', hrmem, rfl⟩ := rf_at hxj
        have hj : j < rs.length := (List.getElem?_eq_some_iff.mp hr').1
        have hdl := putAs_len (rs.take j) ys
        rw [List.length_take] at hdl
        have hyl := g.l
        obtain ⟨hTr, hokr⟩ := (gr7.same s8).2 r hrmem
        walk_at "go"
        refine ⟨aD, r.1, _, r.2, rfl, gd.rl, hTr, by omega, fun p9 H9 s9 n9 k9 => ?_⟩
        refine ⟨s8.trans s9, p9, _, fun z => ?_, ?_, rfl⟩
        · rw [z, (s7.trans s8) _ _ g6n.1] at n9; cases n9
        · rw [List.take_add_one, hr']
          show RN K H9 p9 ((rs.take j ++ [r]).foldl putA ys)
          rw [List.foldl_append]
          refine ⟨k9, fun x hx => ?_⟩
          rcases putA_mem hx with hx | rfl
          · exact ⟨sqT_same s9 (gd.2 x hx).1, (gd.2 x hx).2⟩
          · exact ⟨sqT_same s9 hTr, hokr⟩
      rintro _ H8 ⟨s8, aD, o12, nDN, gd, rfl⟩
      rw [rf_len, List.take_length] at gd
      have s48 := s6.trans (s7.trans s8)
      have g8n := g.n.same s48
      have g8t := s48 _ _ g.t
      have gr8 := gr7.same s8
      have hdl := putAs_len rs ys
      have hyl := g.l
      walk_at "go"
      refine ⟨aD, _, rfl, .inl (SqL.of gd.1), ?_⟩
      rw [rf_len]
      walk_at "go"
      intro d9 h9
      generalize x9 : upd H8 d9 _ = H9
      obtain ⟨s9, k9⟩ : Same H8 H9 ∧ H9 d9 = some (.tup [.str wd, .ref aR, .str z]) := by subst x9; exact ⟨Same.new h9, upd_same⟩
      clear x9
      have g9n := g8n.same s9
      have gr9 := gr8.same s9
      have gd9 := gd.same s9
      have g9t := s9 _ _ g8t
      have exl := rows_len g.e
      have ed : rowsOf (rs.foldl putA ys) = (rowsOf rs).foldl putR (rowsOf ys) := putAs_snd rs ys
      have el : (rs.foldl putA ys).length = ((rowsOf rs).foldl putR (rowsOf xs)).length := by rw [g.e, ← ed]; exact (List.length_map ..).symm
      have hwd' : (wd = "put" ∧ ∃ r, rs = [r]) ∨ wd = "publish" := hwd.imp (fun h => ⟨h.1, List.length_eq_one_iff.mp (by omega)⟩) id
      refine ⟨aN, d9, aR, xs, rs, wd, z, rfl, g9n, by omega, SqT.of k9, gr9.rl, by omega, hrm, hwd', fun hf H10 s10 => ?_, fun hl zs H10 ez sb hz => ?_⟩
      · have hfull : decide ((60 : Int) < ((rs.foldl putA ys).length : Nat)) = true := decide_eq_true (by omega)
        have g10 : Ags K H10 p aN aM ts xs ys := (g.same s48).same (s9.trans s10)
        walk_at "go"
        rw [hfull]
        walk_at "go"
        rw [hfull]
        walk_at "go"
        dsimp only [tNext]
        refine ⟨fun σ H11 => H10 = H11 ∧ ∃ o11 o12 o13 o14, σ = [some (.ref a), some (.ref p), some (.ref aN), some (.ref aM), some (.int i), some (.int (2 + 70 * (i : Int))), some (.str z), some (.int (n : Int)), some (.str wd), some (.ref aR), o10, o11, o12, o13, o14], ?_, ?_⟩
        · walk_at "go"
          rw [hfull]
          walk_at "go"
          exact ⟨_, _, _, _, rfl⟩
        · rintro _ _ ⟨rfl, o11, o12, o13, o14, rfl⟩
          walk_at "go"
          refine ⟨aN, aM, xs, ys, rfl, g10.n, g10.m.rl, g10.e, g10.k, g10.b, by omega, fun H12 s12 => ?_⟩
          walk_at "go"
          exact ⟨xs, ys, aM, _, _, _, _, _, _, _, _, _, _, _, g10.same s12, rfl⟩
      · have hfull : decide ((60 : Int) < ((rs.foldl putA ys).length : Nat)) = false := decide_eq_false (by omega)
        have hB : NoBang (rowsOf rs) := fun r hr => by
          obtain ⟨x, hx, rfl⟩ := List.mem_map.mp hr
          rw [hrm x hx]; exact hzb
        have g10 : Ags K H10 p aN aD ts zs (rs.foldl putA ys) := ⟨hz, gd9.but g9n.1 nDN sb, sb _ _ g.np g9t, by rw [ez, ed, g.e], by rw [ed]; exact puts_key _ _ g.k, by rw [ed]; exact puts_nob _ _ g.b hB, by omega, nDN, g.np⟩
        walk_at "go"
        rw [hfull]
        walk_at "go"
        rw [hfull]
        walk_at "go"
        dsimp only [tNext]
        refine ⟨fun σ H11 => H10 = H11 ∧ ∃ o11 o12 o13 o14, σ = [some (.ref a), some (.ref p), some (.ref aN), some (.ref aD), some (.int i), some (.int (2 + 70 * (i : Int))), some (.str z), some (.int (n : Int)), some (.str wd), some (.ref aR), o10, o11, o12, o13, o14], ?_, ?_⟩
        · walk_at "go"
          rw [hfull]
          walk_at "go"
          exact ⟨_, _, _, _, rfl⟩
        · rintro _ _ ⟨rfl, o11, o12, o13, o14, rfl⟩
          walk_at "go"
          refine ⟨aN, aD, zs, _, rfl, g10.n, g10.m.rl, g10.e, g10.k, g10.b, by have := rows_len g10.e; omega, fun H12 s12 => ?_⟩
          walk_at "go"
          exact ⟨zs, _, aD, _, _, _, _, _, _, _, _, _, _, _, g10.same s12, rfl⟩
    · rintro _ H4 ⟨xs, ys, aM, o4, o5, o6, o7, o8, o9, o10, o11, o12, o13, o14, g, rfl⟩
      walk_at "go"
      exact q _
end
theorem all_mk {l : PySem.W.OpenLaw} {w : World} {K : PySem.W.Frag} {h : Heap} {mg : Str → Option Value} {fa f0 f1 f2 f3 f4 f5 f6 f7 f8 f9 f10 f11 f12 f13 f14 : Addr} (X : K.In h) (G : h.Ns mainGlobals mg) (hfa : mg "law" = some (.ref fa))
    {od0 an0 od1 an1 od2 an2 od3 an3 od4 an4 od5 an5 od6 an6 od7 an7 od8 an8 od9 an9 od10 an10 od11 an11 od12 an12 od13 an13 od14 an14 : Option Addr} {sl0 sl1 sl2 sl3 sl4 sl5 sl6 sl7 sl8 sl9 sl10 sl11 sl12 sl13 sl14 : Array (Option Value)} {oc0 kV0 dc0 pm0 cd0 ct0 oc1 kV1 dc1 pm1 cd1 ct1 oc2 kV2 dc2 pm2 cd2 ct2 oc3 kV3 dc3 pm3 cd3 ct3 oc4 kV4 dc4 pm4 cd4 ct4 oc5 kV5 dc5 pm5 cd5 ct5 oc6 kV6 dc6 pm6 cd6 ct6 oc7 kV7 dc7 pm7 cd7 ct7 oc8 kV8 dc8 pm8 cd8 ct8 oc9 kV9 dc9 pm9 cd9 ct9 oc10 kV10 dc10 pm10 cd10 ct10 oc11 kV11 dc11 pm11 cd11 ct11 oc12 kV12 dc12 pm12 cd12 ct12 oc13 kV13 dc13 pm13 cd13 ct13 oc14 kV14 dc14 pm14 cd14 ct14 : Value}
    (a0 : PySem.W.nsIn K mainGlobals "lookup" = some (some (.ref f0))) (l0 : K.lookup f0 = some ⟨oc0, od0, .func (PySem.W.fnOf "lookup" "lookup" (defArgs s_lookup) (defBody s_lookup) (defScope s_lookup) .none kV0 dc0 pm0 an0 cd0 ct0), sl0⟩) (c0 : PySem.W.codeIn K cd0 "lookup" = true) (k0 : PySem.W.keepIn K (.ref f0) = true)
    (a1 : PySem.W.nsIn K mainGlobals "with_names" = some (some (.ref f1))) (l1 : K.lookup f1 = some ⟨oc1, od1, .func (PySem.W.fnOf "with_names" "with_names" (defArgs s_with_names) (defBody s_with_names) (defScope s_with_names) .none kV1 dc1 pm1 an1 cd1 ct1), sl1⟩) (c1 : PySem.W.codeIn K cd1 "with_names" = true) (k1 : PySem.W.keepIn K (.ref f1) = true)
    (a2 : PySem.W.nsIn K mainGlobals "put_names" = some (some (.ref f2))) (l2 : K.lookup f2 = some ⟨oc2, od2, .func (PySem.W.fnOf "put_names" "put_names" (defArgs s_put_names) (defBody s_put_names) (defScope s_put_names) .none kV2 dc2 pm2 an2 cd2 ct2), sl2⟩) (c2 : PySem.W.codeIn K cd2 "put_names" = true) (k2 : PySem.W.keepIn K (.ref f2) = true)
    (a3 : PySem.W.nsIn K mainGlobals "put_name" = some (some (.ref f3))) (l3 : K.lookup f3 = some ⟨oc3, od3, .func (PySem.W.fnOf "put_name" "put_name" (defArgs s_put_name) (defBody s_put_name) (defScope s_put_name) .none kV3 dc3 pm3 an3 cd3 ct3), sl3⟩) (c3 : PySem.W.codeIn K cd3 "put_name" = true) (k3 : PySem.W.keepIn K (.ref f3) = true)
    (a4 : PySem.W.nsIn K mainGlobals "publish_items" = some (some (.ref f4))) (l4 : K.lookup f4 = some ⟨oc4, od4, .func (PySem.W.fnOf "publish_items" "publish_items" (defArgs s_publish_items) (defBody s_publish_items) (defScope s_publish_items) .none kV4 dc4 pm4 an4 cd4 ct4), sl4⟩) (c4 : PySem.W.codeIn K cd4 "publish_items" = true) (k4 : PySem.W.keepIn K (.ref f4) = true)
    (a5 : PySem.W.nsIn K mainGlobals "_law_tape" = some (some (.ref f5))) (l5 : K.lookup f5 = some ⟨oc5, od5, .func (PySem.W.fnOf "_law_tape" "_law_tape" (defArgs s__law_tape) (defBody s__law_tape) (defScope s__law_tape) .none kV5 dc5 pm5 an5 cd5 ct5), sl5⟩) (c5 : PySem.W.codeIn K cd5 "_law_tape" = true) (k5 : PySem.W.keepIn K (.ref f5) = true)
    (a6 : PySem.W.nsIn K mainGlobals "_law_draw" = some (some (.ref f6))) (l6 : K.lookup f6 = some ⟨oc6, od6, .func (PySem.W.fnOf "_law_draw" "_law_draw" (defArgs s__law_draw) (defBody s__law_draw) (defScope s__law_draw) .none kV6 dc6 pm6 an6 cd6 ct6), sl6⟩) (c6 : PySem.W.codeIn K cd6 "_law_draw" = true) (k6 : PySem.W.keepIn K (.ref f6) = true)
    (a7 : PySem.W.nsIn K mainGlobals "_law_is_int" = some (some (.ref f7))) (l7 : K.lookup f7 = some ⟨oc7, od7, .func (PySem.W.fnOf "_law_is_int" "_law_is_int" (defArgs s__law_is_int) (defBody s__law_is_int) (defScope s__law_is_int) .none kV7 dc7 pm7 an7 cd7 ct7), sl7⟩) (c7 : PySem.W.codeIn K cd7 "_law_is_int" = true) (k7 : PySem.W.keepIn K (.ref f7) = true)
    (a8 : PySem.W.nsIn K mainGlobals "_law_word" = some (some (.ref f8))) (l8 : K.lookup f8 = some ⟨oc8, od8, .func (PySem.W.fnOf "_law_word" "_law_word" (defArgs s__law_word) (defBody s__law_word) (defScope s__law_word) .none kV8 dc8 pm8 an8 cd8 ct8), sl8⟩) (c8 : PySem.W.codeIn K cd8 "_law_word" = true) (k8 : PySem.W.keepIn K (.ref f8) = true)
    (a9 : PySem.W.nsIn K mainGlobals "_law_item" = some (some (.ref f9))) (l9 : K.lookup f9 = some ⟨oc9, od9, .func (PySem.W.fnOf "_law_item" "_law_item" (defArgs s__law_item) (defBody s__law_item) (defScope s__law_item) .none kV9 dc9 pm9 an9 cd9 ct9), sl9⟩) (c9 : PySem.W.codeIn K cd9 "_law_item" = true) (k9 : PySem.W.keepIn K (.ref f9) = true)
    (a10 : PySem.W.nsIn K mainGlobals "_law_put" = some (some (.ref f10))) (l10 : K.lookup f10 = some ⟨oc10, od10, .func (PySem.W.fnOf "_law_put" "_law_put" (defArgs s__law_put) (defBody s__law_put) (defScope s__law_put) .none kV10 dc10 pm10 an10 cd10 ct10), sl10⟩) (c10 : PySem.W.codeIn K cd10 "_law_put" = true) (k10 : PySem.W.keepIn K (.ref f10) = true)
    (a11 : PySem.W.nsIn K mainGlobals "_law_row_fits" = some (some (.ref f11))) (l11 : K.lookup f11 = some ⟨oc11, od11, .func (PySem.W.fnOf "_law_row_fits" "_law_row_fits" (defArgs s__law_row_fits) (defBody s__law_row_fits) (defScope s__law_row_fits) .none kV11 dc11 pm11 an11 cd11 ct11), sl11⟩) (c11 : PySem.W.codeIn K cd11 "_law_row_fits" = true) (k11 : PySem.W.keepIn K (.ref f11) = true)
    (a12 : PySem.W.nsIn K mainGlobals "_law_agrees" = some (some (.ref f12))) (l12 : K.lookup f12 = some ⟨oc12, od12, .func (PySem.W.fnOf "_law_agrees" "_law_agrees" (defArgs s__law_agrees) (defBody s__law_agrees) (defScope s__law_agrees) .none kV12 dc12 pm12 an12 cd12 ct12), sl12⟩) (c12 : PySem.W.codeIn K cd12 "_law_agrees" = true) (k12 : PySem.W.keepIn K (.ref f12) = true)
    (a13 : PySem.W.nsIn K mainGlobals "_law_deed" = some (some (.ref f13))) (l13 : K.lookup f13 = some ⟨oc13, od13, .func (PySem.W.fnOf "_law_deed" "_law_deed" (defArgs s__law_deed) (defBody s__law_deed) (defScope s__law_deed) .none kV13 dc13 pm13 an13 cd13 ct13), sl13⟩) (c13 : PySem.W.codeIn K cd13 "_law_deed" = true) (k13 : PySem.W.keepIn K (.ref f13) = true)
    (a14 : PySem.W.nsIn K mainGlobals "law" = some (some (.ref f14))) (l14 : K.lookup f14 = some ⟨oc14, od14, .func (PySem.W.fnOf "law" "law" (defArgs s_law) (defBody s_law) (defScope s_law) .none kV14 dc14 pm14 an14 cd14 ct14), sl14⟩) (c14 : PySem.W.codeIn K cd14 "law" = true) (k14 : PySem.W.keepIn K (.ref f14) = true)
    (z_ValueError : PySem.W.nsIn K mainGlobals "ValueError" = some none)
    (z_bool : PySem.W.nsIn K mainGlobals "bool" = some none)
    (z_int : PySem.W.nsIn K mainGlobals "int" = some none)
    (z_isinstance : PySem.W.nsIn K mainGlobals "isinstance" = some none)
    (z_len : PySem.W.nsIn K mainGlobals "len" = some none)
    (z_list : PySem.W.nsIn K mainGlobals "list" = some none)
    (z_range : PySem.W.nsIn K mainGlobals "range" = some none)
    (z_str : PySem.W.nsIn K mainGlobals "str" = some none)
    (z_tuple : PySem.W.nsIn K mainGlobals "tuple" = some none)
    {cC_HostError cC_LimitReached cI_LimitReached : Addr}
    (sp0 : PySem.W.specialIn K (.builtin "object.__class__") "__get__" = some (some (.builtin "getset_descriptor.__get__"))) (tk0 : PySem.W.takesIn K (.builtin "object.__class__") = some true)
    (aC_HostError : PySem.W.nsIn K mainGlobals "HostError" = some (some (.ref cC_HostError)))
    (aC_LimitReached : PySem.W.nsIn K mainGlobals "LimitReached" = some (some (.ref cC_LimitReached)))
    (ex_HostError : PySem.W.subIn K (.ref cC_HostError) (.type "BaseException") = some true)
    (ty_HostError : PySem.W.typeIn K (.ref cC_HostError) = some (.type "type"))
    (hd_HostError : PySem.W.hasDictIn K cC_HostError = true)
    (ex_LimitReached : PySem.W.subIn K (.ref cC_LimitReached) (.type "BaseException") = some true)
    (ty_LimitReached : PySem.W.typeIn K (.ref cC_LimitReached) = some (.type "type"))
    (hd_LimitReached : PySem.W.hasDictIn K cC_LimitReached = true)
    {nm_LimitReached qn_LimitReached : Str} {N_LimitReached : Addr} {bs_LimitReached : List Value} {sn_LimitReached : List Str} {sub_LimitReached : List Value} {ab_LimitReached : Bool} {col_LimitReached : Option Bool} {dd_LimitReached : Option Addr} {m0_LimitReached m1_LimitReached m2_LimitReached m3_LimitReached m5_LimitReached : Option Value}
    (xl_LimitReached : K.lookup cC_LimitReached = some (excClassObj nm_LimitReached qn_LimitReached cC_LimitReached N_LimitReached bs_LimitReached [.ref cC_HostError, .type "ValueError", .type "Exception", .type "BaseException", .type "object"] true sn_LimitReached sub_LimitReached ab_LimitReached col_LimitReached dd_LimitReached m0_LimitReached m1_LimitReached m2_LimitReached m3_LimitReached m5_LimitReached "ValueError.__new__"))
    (sa_LimitReached : PySem.W.findIn K (.ref cC_LimitReached) "__setattr__" = some (some (.builtin "object.__setattr__")))
    (ga_LimitReached : PySem.W.findIn K (.ref cC_LimitReached) "__getattribute__" = some (some (.builtin "BaseException.__getattribute__")))
    (gg_LimitReached : PySem.W.findIn K (.ref cC_LimitReached) "__getattr__" = some none)
    (ca_LimitReached : PySem.W.findIn K (.ref cC_LimitReached) "__class__" = some (some (.builtin "object.__class__")))
    (kp_LimitReached : PySem.W.keepIn K (.ref cC_LimitReached) = true)
    (mr_LimitReached : PySem.W.mroIn K cC_LimitReached (.type "object") = some true)
    {odI_LimitReached anI_LimitReached : Option Addr} {slI_LimitReached : Array (Option Value)} {ocI_LimitReached kVI_LimitReached dcI_LimitReached pmI_LimitReached cdI_LimitReached ctI_LimitReached : Value}
    (aI_LimitReached : PySem.W.findIn K (.ref cC_LimitReached) "__init__" = some (some (.ref cI_LimitReached))) (tI_LimitReached : PySem.W.typeIn K (.ref cI_LimitReached) = some (.type "function"))
    (lI_LimitReached : K.lookup cI_LimitReached = some ⟨ocI_LimitReached, odI_LimitReached, .func (PySem.W.fnOf "__init__" "LimitReached.__init__" (defArgs i_LimitReached) (defBody i_LimitReached) (defScope i_LimitReached) .none kVI_LimitReached dcI_LimitReached pmI_LimitReached anI_LimitReached cdI_LimitReached ctI_LimitReached), slI_LimitReached⟩) (cdo_LimitReached : PySem.W.codeIn K cdI_LimitReached "LimitReached.__init__" = true) (kI_LimitReached : PySem.W.keepIn K (.ref cI_LimitReached) = true)
    (no_LimitReached_what : PySem.W.findIn K (.ref cC_LimitReached) "what" = some none)
    (sub_LimitReached_HostError : PySem.W.subIn K (.ref cC_LimitReached) (.ref cC_HostError) = some true) (ne_LimitReached_HostError : (Value.ref cC_LimitReached == Value.ref cC_HostError) = false)
    (sub_LimitReached_LimitReached : PySem.W.subIn K (.ref cC_LimitReached) (.ref cC_LimitReached) = some true)
    (sub_LimitReached_VE : PySem.W.subIn K (.ref cC_LimitReached) (.type "ValueError") = some true)
    {ki_MOST_NAMES : Tok} (ai_MOST_NAMES : PySem.W.nsIn K mainGlobals "MOST_NAMES" = some (some (.int 60 ki_MOST_NAMES)))
    : ∃ fd : FuncData, (∀ (s : Shared) (v : Value), BindsTo s fd ⟨[v], []⟩ [("script", v)]) ∧ ∀ base : Heap, K.In base → base.Ns mainGlobals mg → FnOk l.prog w K mg base CX0 6 fa fd ["script"] (sp_lawK K) := by
  have e := hfa.symm.trans (PySem.W.mg_of X G a14)
  cases e
  have FI_LimitReached := fun_mk (st := i_LimitReached) lI_LimitReached cdo_LimitReached kI_LimitReached
  have T : Tp w K mg (⟨cC_HostError, cC_LimitReached, cI_LimitReached, (PySem.W.fnOf "__init__" "LimitReached.__init__" (defArgs i_LimitReached) (defBody i_LimitReached) (defScope i_LimitReached) .none kVI_LimitReached dcI_LimitReached pmI_LimitReached anI_LimitReached cdI_LimitReached ctI_LimitReached)⟩ : Cs) := ⟨PySem.W.mg_none_of X G z_ValueError, PySem.W.mg_none_of X G z_bool, PySem.W.mg_none_of X G z_int, PySem.W.mg_none_of X G z_isinstance, PySem.W.mg_none_of X G z_len, PySem.W.mg_none_of X G z_list, PySem.W.mg_none_of X G z_range, PySem.W.mg_none_of X G z_str, PySem.W.mg_none_of X G z_tuple, PySem.W.mg_of X G aC_HostError, PySem.W.mg_of X G aC_LimitReached, ⟨PySem.W.mg_of X G aC_LimitReached, ⟨⟨nm_LimitReached, qn_LimitReached, N_LimitReached, bs_LimitReached, _, sn_LimitReached, sub_LimitReached, ab_LimitReached, col_LimitReached, dd_LimitReached, m0_LimitReached, m1_LimitReached, m2_LimitReached, m3_LimitReached, m5_LimitReached, xl_LimitReached, by rfl⟩, sa_LimitReached, ex_LimitReached, ty_LimitReached, kp_LimitReached⟩, ga_LimitReached, gg_LimitReached, hd_LimitReached, ca_LimitReached, sp0, tk0, mr_LimitReached⟩, aI_LimitReached, tI_LimitReached, FI_LimitReached, FI_LimitReached.binds (ps := ["self", "what"]) fun _ _ _ _ _ _ us hl => match us, hl with | [_, _], _ => rfl, no_LimitReached_what, kit_two ne_LimitReached_HostError hd_HostError ty_HostError sub_LimitReached_HostError, PySem.W.exm_ref ex_HostError hd_HostError ty_HostError sub_LimitReached_HostError, kit_self, PySem.W.exm_ref ex_LimitReached hd_LimitReached ty_LimitReached sub_LimitReached_LimitReached, kit_ve sub_LimitReached_VE, ⟨_, PySem.W.mg_of X G ai_MOST_NAMES⟩⟩
  have F0 := fun_mk (st := s_lookup) l0 c0 k0
  have D_lookup : Def K mg "lookup" s_lookup ["names", "module", "name"] := ⟨_, _, F0, PySem.W.mg_of X G a0, F0.binds (ps := ["names", "module", "name"]) fun _ _ _ _ _ _ us hl => match us, hl with | [_, _, _], _ => rfl⟩
  have F1 := fun_mk (st := s_with_names) l1 c1 k1
  have D_with_names : Def K mg "with_names" s_with_names ["names", "rows"] := ⟨_, _, F1, PySem.W.mg_of X G a1, F1.binds (ps := ["names", "rows"]) fun _ _ _ _ _ _ us hl => match us, hl with | [_, _], _ => rfl⟩
  have F2 := fun_mk (st := s_put_names) l2 c2 k2
  have D_put_names : Def K mg "put_names" s_put_names ["names", "rows"] := ⟨_, _, F2, PySem.W.mg_of X G a2, F2.binds (ps := ["names", "rows"]) fun _ _ _ _ _ _ us hl => match us, hl with | [_, _], _ => rfl⟩
  have F3 := fun_mk (st := s_put_name) l3 c3 k3
  have D_put_name : Def K mg "put_name" s_put_name ["names", "module", "name", "kind", "index"] := ⟨_, _, F3, PySem.W.mg_of X G a3, F3.binds (ps := ["names", "module", "name", "kind", "index"]) fun _ _ _ _ _ _ us hl => match us, hl with | [_, _, _, _, _], _ => rfl⟩
  have F4 := fun_mk (st := s_publish_items) l4 c4 k4
  have D_publish_items : Def K mg "publish_items" s_publish_items ["names", "module", "items"] := ⟨_, _, F4, PySem.W.mg_of X G a4, F4.binds (ps := ["names", "module", "items"]) fun _ _ _ _ _ _ us hl => match us, hl with | [_, _, _], _ => rfl⟩
  have F5 := fun_mk (st := s__law_tape) l5 c5 k5
  have D__law_tape : Def K mg "_law_tape" s__law_tape ["script"] := ⟨_, _, F5, PySem.W.mg_of X G a5, F5.binds (ps := ["script"]) fun _ _ _ _ _ _ us hl => match us, hl with | [_], _ => rfl⟩
  have F6 := fun_mk (st := s__law_draw) l6 c6 k6
  have D__law_draw : Def K mg "_law_draw" s__law_draw ["tape", "at", "many"] := ⟨_, _, F6, PySem.W.mg_of X G a6, F6.binds (ps := ["tape", "at", "many"]) fun _ _ _ _ _ _ us hl => match us, hl with | [_, _, _], _ => rfl⟩
  have F7 := fun_mk (st := s__law_is_int) l7 c7 k7
  have D__law_is_int : Def K mg "_law_is_int" s__law_is_int ["actual"] := ⟨_, _, F7, PySem.W.mg_of X G a7, F7.binds (ps := ["actual"]) fun _ _ _ _ _ _ us hl => match us, hl with | [_], _ => rfl⟩
  have F8 := fun_mk (st := s__law_word) l8 c8 k8
  have D__law_word : Def K mg "_law_word" s__law_word ["tape", "at"] := ⟨_, _, F8, PySem.W.mg_of X G a8, F8.binds (ps := ["tape", "at"]) fun _ _ _ _ _ _ us hl => match us, hl with | [_, _], _ => rfl⟩
  have F9 := fun_mk (st := s__law_item) l9 c9 k9
  have D__law_item : Def K mg "_law_item" s__law_item ["tape", "at"] := ⟨_, _, F9, PySem.W.mg_of X G a9, F9.binds (ps := ["tape", "at"]) fun _ _ _ _ _ _ us hl => match us, hl with | [_, _], _ => rfl⟩
  have F10 := fun_mk (st := s__law_put) l10 c10 k10
  have D__law_put : Def K mg "_law_put" s__law_put ["model", "row"] := ⟨_, _, F10, PySem.W.mg_of X G a10, F10.binds (ps := ["model", "row"]) fun _ _ _ _ _ _ us hl => match us, hl with | [_, _], _ => rfl⟩
  have F11 := fun_mk (st := s__law_row_fits) l11 c11 k11
  have D__law_row_fits : Def K mg "_law_row_fits" s__law_row_fits ["actual", "due"] := ⟨_, _, F11, PySem.W.mg_of X G a11, F11.binds (ps := ["actual", "due"]) fun _ _ _ _ _ _ us hl => match us, hl with | [_, _], _ => rfl⟩
  have F12 := fun_mk (st := s__law_agrees) l12 c12 k12
  have D__law_agrees : Def K mg "_law_agrees" s__law_agrees ["names", "model"] := ⟨_, _, F12, PySem.W.mg_of X G a12, F12.binds (ps := ["names", "model"]) fun _ _ _ _ _ _ us hl => match us, hl with | [_, _], _ => rfl⟩
  have F13 := fun_mk (st := s__law_deed) l13 c13 k13
  have D__law_deed : Def K mg "_law_deed" s__law_deed ["names", "deed"] := ⟨_, _, F13, PySem.W.mg_of X G a13, F13.binds (ps := ["names", "deed"]) fun _ _ _ _ _ _ us hl => match us, hl with | [_, _], _ => rfl⟩
  have F14 := fun_mk (st := s_law) l14 c14 k14
  refine ⟨PySem.W.fnOf "law" "law" (defArgs s_law) (defBody s_law) (defScope s_law) .none kV14 dc14 pm14 an14 cd14 ct14, fun s v => .of_eq rfl, fun base _ _ => ?_⟩
  have C__law_tape : Cal l.prog w K mg base CX0 1 "_law_tape" (sp__law_tape K (⟨cC_HostError, cC_LimitReached, cI_LimitReached, (PySem.W.fnOf "__init__" "LimitReached.__init__" (defArgs i_LimitReached) (defBody i_LimitReached) (defScope i_LimitReached) .none kVI_LimitReached dcI_LimitReached pmI_LimitReached anI_LimitReached cdI_LimitReached ctI_LimitReached)⟩ : Cs)) := c__law_tape D__law_tape T 
  have C__law_draw : Cal l.prog w K mg base CX0 1 "_law_draw" (sp__law_draw K (⟨cC_HostError, cC_LimitReached, cI_LimitReached, (PySem.W.fnOf "__init__" "LimitReached.__init__" (defArgs i_LimitReached) (defBody i_LimitReached) (defScope i_LimitReached) .none kVI_LimitReached dcI_LimitReached pmI_LimitReached anI_LimitReached cdI_LimitReached ctI_LimitReached)⟩ : Cs)) := c__law_draw D__law_draw T 
  have C__law_word : Cal l.prog w K mg base CX0 2 "_law_word" (sp__law_word K (⟨cC_HostError, cC_LimitReached, cI_LimitReached, (PySem.W.fnOf "__init__" "LimitReached.__init__" (defArgs i_LimitReached) (defBody i_LimitReached) (defScope i_LimitReached) .none kVI_LimitReached dcI_LimitReached pmI_LimitReached anI_LimitReached cdI_LimitReached ctI_LimitReached)⟩ : Cs)) := c__law_word D__law_word T C__law_draw
  have C_with_names : Cal l.prog w K mg base CX0 1 "with_names" (sp_with_names K (⟨cC_HostError, cC_LimitReached, cI_LimitReached, (PySem.W.fnOf "__init__" "LimitReached.__init__" (defArgs i_LimitReached) (defBody i_LimitReached) (defScope i_LimitReached) .none kVI_LimitReached dcI_LimitReached pmI_LimitReached anI_LimitReached cdI_LimitReached ctI_LimitReached)⟩ : Cs)) := c_with_names D_with_names T 
  have C_put_names : Cal l.prog w K mg base (L2.CX l.prog w) 3 "put_names" (sp_put_names K (⟨cC_HostError, cC_LimitReached, cI_LimitReached, (PySem.W.fnOf "__init__" "LimitReached.__init__" (defArgs i_LimitReached) (defBody i_LimitReached) (defScope i_LimitReached) .none kVI_LimitReached dcI_LimitReached pmI_LimitReached anI_LimitReached cdI_LimitReached ctI_LimitReached)⟩ : Cs)) := c_put_names D_put_names T C_with_names
  have C_put_name : Cal l.prog w K mg base (L2.CX l.prog w) 4 "put_name" (sp_put_name K (⟨cC_HostError, cC_LimitReached, cI_LimitReached, (PySem.W.fnOf "__init__" "LimitReached.__init__" (defArgs i_LimitReached) (defBody i_LimitReached) (defScope i_LimitReached) .none kVI_LimitReached dcI_LimitReached pmI_LimitReached anI_LimitReached cdI_LimitReached ctI_LimitReached)⟩ : Cs)) := c_put_name D_put_name T C_put_names
  have C_publish_items : Cal l.prog w K mg base (L2.CX l.prog w) 4 "publish_items" (sp_publish_items K (⟨cC_HostError, cC_LimitReached, cI_LimitReached, (PySem.W.fnOf "__init__" "LimitReached.__init__" (defArgs i_LimitReached) (defBody i_LimitReached) (defScope i_LimitReached) .none kVI_LimitReached dcI_LimitReached pmI_LimitReached anI_LimitReached cdI_LimitReached ctI_LimitReached)⟩ : Cs)) := c_publish_items D_publish_items T C_put_names
  have C__law_deed : Cal l.prog w K mg base CX0 5 "_law_deed" (sp__law_deed K (⟨cC_HostError, cC_LimitReached, cI_LimitReached, (PySem.W.fnOf "__init__" "LimitReached.__init__" (defArgs i_LimitReached) (defBody i_LimitReached) (defScope i_LimitReached) .none kVI_LimitReached dcI_LimitReached pmI_LimitReached anI_LimitReached cdI_LimitReached ctI_LimitReached)⟩ : Cs)) := c__law_deed D__law_deed T C_put_name C_publish_items
  have C__law_put : Cal l.prog w K mg base CX0 1 "_law_put" (sp__law_put K (⟨cC_HostError, cC_LimitReached, cI_LimitReached, (PySem.W.fnOf "__init__" "LimitReached.__init__" (defArgs i_LimitReached) (defBody i_LimitReached) (defScope i_LimitReached) .none kVI_LimitReached dcI_LimitReached pmI_LimitReached anI_LimitReached cdI_LimitReached ctI_LimitReached)⟩ : Cs)) := c__law_put D__law_put T 
  have C__law_is_int : Cal l.prog w K mg base CX0 1 "_law_is_int" (sp__law_is_int K (⟨cC_HostError, cC_LimitReached, cI_LimitReached, (PySem.W.fnOf "__init__" "LimitReached.__init__" (defArgs i_LimitReached) (defBody i_LimitReached) (defScope i_LimitReached) .none kVI_LimitReached dcI_LimitReached pmI_LimitReached anI_LimitReached cdI_LimitReached ctI_LimitReached)⟩ : Cs)) := c__law_is_int D__law_is_int T 
  have C__law_row_fits : Cal l.prog w K mg base CX0 2 "_law_row_fits" (sp__law_row_fits K (⟨cC_HostError, cC_LimitReached, cI_LimitReached, (PySem.W.fnOf "__init__" "LimitReached.__init__" (defArgs i_LimitReached) (defBody i_LimitReached) (defScope i_LimitReached) .none kVI_LimitReached dcI_LimitReached pmI_LimitReached anI_LimitReached cdI_LimitReached ctI_LimitReached)⟩ : Cs)) := c__law_row_fits D__law_row_fits T C__law_is_int
  have C_lookup : Cal l.prog w K mg base CX0 1 "lookup" (sp_lookup K (⟨cC_HostError, cC_LimitReached, cI_LimitReached, (PySem.W.fnOf "__init__" "LimitReached.__init__" (defArgs i_LimitReached) (defBody i_LimitReached) (defScope i_LimitReached) .none kVI_LimitReached dcI_LimitReached pmI_LimitReached anI_LimitReached cdI_LimitReached ctI_LimitReached)⟩ : Cs)) := c_lookup D_lookup T 
  have C__law_agrees : Cal l.prog w K mg base CX0 3 "_law_agrees" (sp__law_agrees K (⟨cC_HostError, cC_LimitReached, cI_LimitReached, (PySem.W.fnOf "__init__" "LimitReached.__init__" (defArgs i_LimitReached) (defBody i_LimitReached) (defScope i_LimitReached) .none kVI_LimitReached dcI_LimitReached pmI_LimitReached anI_LimitReached cdI_LimitReached ctI_LimitReached)⟩ : Cs)) := c__law_agrees D__law_agrees T C__law_row_fits C_lookup
  have C__law_item : Cal l.prog w K mg base CX0 3 "_law_item" (sp__law_item K (⟨cC_HostError, cC_LimitReached, cI_LimitReached, (PySem.W.fnOf "__init__" "LimitReached.__init__" (defArgs i_LimitReached) (defBody i_LimitReached) (defScope i_LimitReached) .none kVI_LimitReached dcI_LimitReached pmI_LimitReached anI_LimitReached cdI_LimitReached ctI_LimitReached)⟩ : Cs)) := c__law_item D__law_item T C__law_draw C__law_word
  exact c_law F14 T C__law_tape C__law_draw C__law_word C__law_deed C_put_name C__law_put C__law_agrees C__law_item
theorem walk {l : PySem.W.OpenLaw} {q : Program} {loose : List Str} {XP : (Str → Option Value) → Heap → Prop} {YP : World → Heap → Prop} {d : DefRec} {K : Params → PySem.W.Frag} (hn : l.most = some 63) (hdf : d.params.defaults = [])
    (hY : ∀ (w : World) (h : Heap), YP w h → (K w.params).In h)
    (F : ∀ (w : World) (mg : Str → Option Value) (fa : Addr) (h : Heap), (K w.params).In h → h.Ns mainGlobals mg → mg d.name = some (.ref fa) →
      ∃ fd : FuncData, (∀ (s : Shared) (u : Value), BindsTo s fd ⟨[u], []⟩ [("script", u)]) ∧ ∀ base : Heap, (K w.params).In base → base.Ns mainGlobals mg → FnOk l.prog w (K w.params) mg base CX0 6 fa fd ["script"] (sp_lawK (K w.params))) :
    PySem.W.WalkO q loose XP YP l.row.toRowW d [] (fun f vs => PySem.call f vs) :=
  L2.walk_of (n := 63) (k := 6) (x := "script") (CX := fun _ => CX0) (sp := fun w => sp_lawK (K w.params)) hn (by decide) hdf ⟨rfl, by decide, by decide⟩ hY F (fun _ _ a ns hl _ hS => ⟨a, ns, rfl, hS, hl, fun _ => rfl⟩) fun _ _ _ _ _ z => z
end V
open PySem PySem.W PyProof.Rows
set_option maxRecDepth 100000 in
set_option maxHeartbeats 0 in
theorem PySem.Challenge.cw_wasmhost_k42_names_are_put_last_holds : PySem.Challenge.rw_wasmhost_k42_names_are_put_last.Holds := by
  w_on; o_law; k_head; (case hw => w_witness2)
  k_fill
  refine V.walk (l := PySem.Challenge.rw_wasmhost_k42_names_are_put_last) rfl rfl (fun w h Y => PySem.W.kIn_of Y) ?F
  case F =>
    intro w mg fa h KX G hmg
    refine' V.all_mk KX G hmg ?a0 ?l0 ?c0 ?k0 ?a1 ?l1 ?c1 ?k1 ?a2 ?l2 ?c2 ?k2 ?a3 ?l3 ?c3 ?k3 ?a4 ?l4 ?c4 ?k4 ?a5 ?l5 ?c5 ?k5 ?a6 ?l6 ?c6 ?k6 ?a7 ?l7 ?c7 ?k7 ?a8 ?l8 ?c8 ?k8 ?a9 ?l9 ?c9 ?k9 ?a10 ?l10 ?c10 ?k10 ?a11 ?l11 ?c11 ?k11 ?a12 ?l12 ?c12 ?k12 ?a13 ?l13 ?c13 ?k13 ?a14 ?l14 ?c14 ?k14 ?z_ValueError ?z_bool ?z_int ?z_isinstance ?z_len ?z_list ?z_range ?z_str ?z_tuple ?sp0 ?tk0 ?aC_HostError ?aC_LimitReached ?ex_HostError ?ty_HostError ?hd_HostError ?ex_LimitReached ?ty_LimitReached ?hd_LimitReached ?xl_LimitReached ?sa_LimitReached ?ga_LimitReached ?gg_LimitReached ?ca_LimitReached ?kp_LimitReached ?mr_LimitReached ?aI_LimitReached ?tI_LimitReached ?lI_LimitReached ?cdo_LimitReached ?kI_LimitReached ?no_LimitReached_what ?sub_LimitReached_HostError ?ne_LimitReached_HostError ?sub_LimitReached_LimitReached ?sub_LimitReached_VE ?ai_MOST_NAMES
    (case a0 => k_is)
    (case l0 => k_is)
    (case c0 => k_is)
    (case k0 => k_is)
    (case a1 => k_is)
    (case l1 => k_is)
    (case c1 => k_is)
    (case k1 => k_is)
    (case a2 => k_is)
    (case l2 => k_is)
    (case c2 => k_is)
    (case k2 => k_is)
    (case a3 => k_is)
    (case l3 => k_is)
    (case c3 => k_is)
    (case k3 => k_is)
    (case a4 => k_is)
    (case l4 => k_is)
    (case c4 => k_is)
    (case k4 => k_is)
    (case a5 => k_is)
    (case l5 => k_is)
    (case c5 => k_is)
    (case k5 => k_is)
    (case a6 => k_is)
    (case l6 => k_is)
    (case c6 => k_is)
    (case k6 => k_is)
    (case a7 => k_is)
    (case l7 => k_is)
    (case c7 => k_is)
    (case k7 => k_is)
    (case a8 => k_is)
    (case l8 => k_is)
    (case c8 => k_is)
    (case k8 => k_is)
    (case a9 => k_is)
    (case l9 => k_is)
    (case c9 => k_is)
    (case k9 => k_is)
    (case a10 => k_is)
    (case l10 => k_is)
    (case c10 => k_is)
    (case k10 => k_is)
    (case a11 => k_is)
    (case l11 => k_is)
    (case c11 => k_is)
    (case k11 => k_is)
    (case a12 => k_is)
    (case l12 => k_is)
    (case c12 => k_is)
    (case k12 => k_is)
    (case a13 => k_is)
    (case l13 => k_is)
    (case c13 => k_is)
    (case k13 => k_is)
    (case a14 => k_is)
    (case l14 => k_is)
    (case c14 => k_is)
    (case k14 => k_is)
    (case z_ValueError => k_is)
    (case z_bool => k_is)
    (case z_int => k_is)
    (case z_isinstance => k_is)
    (case z_len => k_is)
    (case z_list => k_is)
    (case z_range => k_is)
    (case z_str => k_is)
    (case z_tuple => k_is)
    (case sp0 => k_is)
    (case tk0 => k_is)
    (case aC_HostError => k_is)
    (case aC_LimitReached => k_is)
    (case ex_HostError => k_is)
    (case ty_HostError => k_is)
    (case hd_HostError => k_is)
    (case ex_LimitReached => k_is)
    (case ty_LimitReached => k_is)
    (case hd_LimitReached => k_is)
    (case xl_LimitReached => k_is)
    (case sa_LimitReached => k_is)
    (case ga_LimitReached => k_is)
    (case gg_LimitReached => k_is)
    (case ca_LimitReached => k_is)
    (case kp_LimitReached => k_is)
    (case mr_LimitReached => k_is)
    (case aI_LimitReached => k_is)
    (case tI_LimitReached => k_is)
    (case lI_LimitReached => k_is)
    (case cdo_LimitReached => k_is)
    (case kI_LimitReached => k_is)
    (case no_LimitReached_what => k_is)
    (case sub_LimitReached_HostError => first | rfl | k_is)
    (case ne_LimitReached_HostError => decide)
    (case sub_LimitReached_LimitReached => first | rfl | k_is)
    (case sub_LimitReached_VE => first | rfl | k_is)
    (case ai_MOST_NAMES => k_is)
#print axioms PySem.Challenge.cw_wasmhost_k42_names_are_put_last_holds


