/- Plain mathematics: what a name stands for stands for itself. -/
import Derived.Test.YtbmebfgapjhchaaGreatDoorVa
namespace Go.Proofs.YtbmebfgapjhchaaGreatDoor
open M
namespace X
def Own (l:List U) (f i:Int):Prop:=∃ v∈l,(v.f:Int)=f∧(v.i:Int)=i∧v.tf=v.f∧v.tt=v.i∧v.s≤2
def Tgt (l:List U) (u:U):Prop:=0≤u.tt→Own l u.tf u.tt
theorem ownU_mem {f:Nat} {n:Nm} {s e:Nat} {l:List U} (hs:s≤2) (hm:∀ u∈ownU f n s e,u∈l) (hn:n.1≠[]):Own l f n.2:=by
 refine ⟨⟨f,n.2,s,f,n.2,e⟩,hm _ ?_,rfl,rfl,rfl,rfl,hs⟩
 unfold ownU tellU
 rw [if_neg hn];simp
theorem ownU_tgt {f:Nat} {n:Nm} {s e:Nat} {l:List U} (hs:s≤2) (hm:∀ u∈ownU f n s e,u∈l):∀ u∈ownU f n s e,Tgt l u:=by
 intro u hu _
 unfold ownU tellU at hu
 split at hu
 ·cases hu
 ·next hn =>
  have:=ownU_mem hs hm hn
  obtain rfl:=List.mem_singleton.1 hu
  exact this
theorem parU_own {f:Nat} {l:List U}:∀ (ns seen:List Nm),(∀ u∈parU f seen ns,u∈l)→(∀ u∈parU f seen ns,Tgt l u)∧∀ m∈ns,m.1≠[]→Own l f m.2
 | [],_,_=>⟨fun u hu=>(by cases hu),fun m hm=>(by cases hm)⟩
 | n::ns,seen,h=>by
  rw [parU] at h ⊢
  have h1:∀ u∈ownU f n 1 (if seen.any (fun m=>m.1==n.1) then 5 else 0),u∈l:=fun u hu=>h u (List.mem_append_left _ hu)
  obtain ⟨i1,i2⟩:=parU_own ns (seen++[n]) (fun u hu=>h u (List.mem_append_right _ hu))
  refine ⟨fun u hu=>?_,fun m hm hne=>?_⟩
  ·rcases List.mem_append.1 hu with g|g
   ·exact ownU_tgt (by decide) h1 u g
   ·exact i1 u g
  ·rcases List.mem_cons.1 hm with rfl|g
   ·exact ownU_mem (by decide) h1 hne
   ·exact i2 m g hne
def Sees (l:List U) (f:Nat) (sc:List (List Nm)):Prop:=∀ b∈sc,∀ m∈b,m.1≠[]→Own l f m.2
theorem sight_own {l:List U} {f:Nat} {x:List UInt8} (hx:x≠[]):∀ {sc:List (List Nm)} {i:Nat},Sees l f sc→sight sc x=some i→Own l f i
 | [],i,_,h=>by cases h
 | b::bs,i,hs,h=>by
  rw [sight] at h
  cases hf:first b x with
  | none =>
   rw [hf] at h
   exact sight_own hx (fun b' hb'=>hs b' (List.mem_cons_of_mem _ hb')) h
  | some j =>
   rw [hf] at h
   obtain rfl:j=i:=Option.some.inj h
   unfold first at hf
   cases hg:b.find? (fun m=>m.1==x) with
   | none=>rw [hg] at hf;cases hf
   | some m =>
    rw [hg] at hf
    have e1:m.2=j:=Option.some.inj hf
    have e2:=List.find?_some hg
    have e3:m.1=x:=by simpa using e2
    rw [← e1]
    exact hs b (by simp) m (List.mem_of_find?_eq_some hg) (by rw [e3];exact hx)
theorem tellU_tgt {l:List U} {f:Nat} {n:Nm} {s:Nat} {a:An} (h:n.1≠[]→0≤a.2.1→Own l a.1 a.2.1):∀ u∈tellU f n s a,Tgt l u:=by
 intro u hu h0
 unfold tellU at hu
 split at hu
 ·cases hu
 ·next hn =>
  obtain rfl:=List.mem_singleton.1 hu
  exact h hn h0
mutual
theorem exU_own {l:List U} {f:Nat} {top:List UInt8→An} (ht:∀ x,x≠[]→0≤(top x).2.1→Own l (top x).1 (top x).2.1):∀ (e:Ex) (sc:List (List Nm)),Sees l f sc→(∀ u∈exU f top sc e,u∈l)→∀ u∈exU f top sc e,Tgt l u
 | .lit _ _,sc,_,_=>fun u hu=>by rw [exU] at hu;cases hu
 | .hole _,sc,_,_=>fun u hu=>by rw [exU] at hu;cases hu
 | .missing,sc,_,_=>fun u hu=>by rw [exU] at hu;cases hu
 | .var n,sc,hs,_=>by
  rw [exU]
  refine tellU_tgt fun hn h0=>?_
  cases hq:sight sc n.1 with
  | some i=>exact sight_own hn hs hq
  | none=>rw [hq] at h0;exact ht n.1 hn h0
 | .lett n v b,sc,hs,hm=>by
  rw [exU] at hm ⊢
  have m1:∀ u∈ownU f n 2 0,u∈l:=fun u hu=>hm u (List.mem_append_left _ hu)
  have hs2:Sees l f ([n]::sc):=fun b' hb' m hmb hne=>by
   rcases List.mem_cons.1 hb' with rfl|g
   ·obtain rfl:=List.mem_singleton.1 hmb
    exact ownU_mem (by decide) m1 hne
   ·exact hs b' g m hmb hne
  intro u hu
  rcases List.mem_append.1 hu with g|g
  ·exact ownU_tgt (by decide) m1 u g
  ·rcases List.mem_append.1 g with g|g
   ·exact exU_own ht v sc hs (fun u hu=>hm u (List.mem_append_right _ (List.mem_append_left _ hu))) u g
   ·exact exU_own ht b ([n]::sc) hs2 (fun u hu=>hm u (List.mem_append_right _ (List.mem_append_right _ hu))) u g
 | .ite a b c,sc,hs,hm=>by
  rw [exU] at hm ⊢
  intro u hu
  rcases List.mem_append.1 hu with g|g
  ·exact exU_own ht a sc hs (fun u hu=>hm u (List.mem_append_left _ hu)) u g
  ·rcases List.mem_append.1 g with g|g
   ·exact exU_own ht b sc hs (fun u hu=>hm u (List.mem_append_right _ (List.mem_append_left _ hu))) u g
   ·exact exU_own ht c sc hs (fun u hu=>hm u (List.mem_append_right _ (List.mem_append_right _ hu))) u g
 | .fn ns b,sc,hs,hm=>by
  rw [exU] at hm ⊢
  obtain ⟨p1,p2⟩:=parU_own (f:=f) (l:=l) ns [] (fun u hu=>hm u (List.mem_append_left _ hu))
  have hs2:Sees l f (ns::sc):=fun b' hb' m hmb hne=>by
   rcases List.mem_cons.1 hb' with rfl|g
   ·exact p2 m hmb hne
   ·exact hs b' g m hmb hne
  intro u hu
  rcases List.mem_append.1 hu with g|g
  ·exact p1 u g
  ·exact exU_own ht b (ns::sc) hs2 (fun u hu=>hm u (List.mem_append_right _ hu)) u g
 | .bin a _ b,sc,hs,hm=>by
  rw [exU] at hm ⊢
  intro u hu
  rcases List.mem_append.1 hu with g|g
  ·exact exU_own ht a sc hs (fun u hu=>hm u (List.mem_append_left _ hu)) u g
  ·exact exU_own ht b sc hs (fun u hu=>hm u (List.mem_append_right _ hu)) u g
 | .call a as',sc,hs,hm=>by
  rw [exU] at hm ⊢
  intro u hu
  rcases List.mem_append.1 hu with g|g
  ·exact exU_own ht a sc hs (fun u hu=>hm u (List.mem_append_left _ hu)) u g
  ·exact exUs_own ht as' sc hs (fun u hu=>hm u (List.mem_append_right _ hu)) u g
 | .list as',sc,hs,hm=>by
  rw [exU] at hm ⊢
  exact exUs_own ht as' sc hs hm
 | .group e,sc,hs,hm=>by
  rw [exU] at hm ⊢
  exact exU_own ht e sc hs hm
theorem exUs_own {l:List U} {f:Nat} {top:List UInt8→An} (ht:∀ x,x≠[]→0≤(top x).2.1→Own l (top x).1 (top x).2.1):∀ (es:List Ex) (sc:List (List Nm)),Sees l f sc→(∀ u∈exUs f top sc es,u∈l)→∀ u∈exUs f top sc es,Tgt l u
 | [],sc,_,_=>fun u hu=>by rw [exUs] at hu;cases hu
 | e::es,sc,hs,hm=>by
  rw [exUs] at hm ⊢
  intro u hu
  rcases List.mem_append.1 hu with g|g
  ·exact exU_own ht e sc hs (fun u hu=>hm u (List.mem_append_left _ hu)) u g
  ·exact exUs_own ht es sc hs (fun u hu=>hm u (List.mem_append_right _ hu)) u g
end
theorem topI_name {l:List It} {x:List UInt8} {k:Nat} (h:topI l x=some k):∃ it,l[k]?=some it∧(called it).1=x∧x≠[]:=by
 unfold topI at h
 split at h
 ·cases h
 ·next hx =>
  obtain ⟨hk,hp,-⟩:=List.findIdx?_eq_some_iff_getElem.1 h
  exact ⟨l[k],List.getElem?_eq_getElem hk,by simpa using hp,hx⟩
theorem ansI_def (fs:List Fl):∀ (left f k:Nat),(∀ p n ps b,(itemsOf fs f)[k]?=some (.dfn p n ps b)→n.1≠[])→0≤(ansI fs left f k).2.1→∃ (f' k':Nat) (p:Bool) (n:Nm) (ps:Option (List Nm)) (b:Ex),(itemsOf fs f')[k']?=some (.dfn p n ps b)∧n.1≠[]∧(ansI fs left f k).1=f'∧(ansI fs left f k).2.1=n.2
 | left,f,k,hd,h0=>by
  unfold ansI at h0 ⊢
  cases hk:(itemsOf fs f)[k]? with
  | none=>rw [hk] at h0;exact absurd h0 (by simp)
  | some it =>
   rw [hk] at h0
   cases it with
   | dfn p n ps b=>exact ⟨f,k,p,n,ps,b,hk,hd p n ps b hk,rfl,rfl⟩
   | use p m n gs a =>
    simp only at h0 ⊢
    cases hm:modI fs m.1 with
    | none=>rw [hm] at h0;exact absurd h0 (by simp)
    | some f' =>
     rw [hm] at h0
     simp only at h0 ⊢
     cases ht:topI (itemsOf fs f') n.1 with
     | none=>rw [ht] at h0;exact absurd h0 (by simp)
     | some k' =>
      rw [ht] at h0
      simp only at h0 ⊢
      obtain ⟨it,hit,hc,hne⟩:=topI_name ht
      rw [hit] at h0 ⊢
      simp only at h0 ⊢
      by_cases hs:shown it=false∧f'≠f
      ·rw [if_pos hs] at h0;exact absurd h0 (by simp)
      ·rw [if_neg hs] at h0 ⊢
       cases left with
       | zero =>
        cases it with
        | dfn p2 d ps b=>exact ⟨f',k',p2,d,ps,b,hit,by rw [← hc] at hne;exact hne,rfl,rfl⟩
        | use _ _ _ _ _=>exact absurd h0 (by simp)
       | succ left =>
        simp only at h0 ⊢
        refine ansI_def fs left f' k' (fun p2 d ps b e=>?_) h0
        rw [hit] at e
        cases e
        rw [← hc] at hne;exact hne
theorem itsU_mem {fs:List Fl} {f:Nat}:∀ {l:List It} {k j:Nat} {it:It},l[j]?=some it→∀ u∈itU fs f (k+j) it,u∈itsU fs f k l
 | [],k,j,it,h=>by simp at h
 | a::l,k,0,it,h=>fun u hu=>by
  cases h
  rw [itsU];exact List.mem_append_left _ hu
 | a::l,k,j+1,it,h=>fun u hu=>by
  rw [itsU]
  refine List.mem_append_right _ (itsU_mem (k:=k+1) (j:=j) (by simpa using h) u ?_)
  rw [show k+1+j=k+(j+1) by omega];exact hu
theorem itemsOf_lt {fs:List Fl} {f k:Nat} {it:It} (h:(itemsOf fs f)[k]?=some it):f<fs.length:=by
 rcases Nat.lt_or_ge f fs.length with g|g
 ·exact g
 ·unfold itemsOf at h
  rw [List.getD_eq_getElem?_getD,List.getElem?_eq_none g] at h
  simp at h
theorem allU_mem {fs:List Fl} {f k:Nat} {it:It} (h:(itemsOf fs f)[k]?=some it):∀ u∈itU fs f k it,u∈allU fs:=by
 intro u hu
 refine List.mem_flatMap.2 ⟨f,List.mem_range.2 (itemsOf_lt h),itsU_mem (k:=0) (j:=k) h u ?_⟩
 rw [Nat.zero_add];exact hu
theorem def_own {fs:List Fl} {f k:Nat} {p:Bool} {n:Nm} {ps:Option (List Nm)} {b:Ex} (h:(itemsOf fs f)[k]?=some (.dfn p n ps b)) (hn:n.1≠[]):Own (allU fs) f n.2 :=
 ownU_mem (s:=0) (e:=twiceE (itemsOf fs f) k n.1) (by decide) (fun u hu=>allU_mem h u (List.mem_append_left _ hu)) hn
theorem ansI_own {fs:List Fl} {left f k:Nat} (hd:∀ p n ps b,(itemsOf fs f)[k]?=some (.dfn p n ps b)→n.1≠[]) (h0:0≤(ansI fs left f k).2.1):Own (allU fs) (ansI fs left f k).1 (ansI fs left f k).2.1:=by
 obtain ⟨f',k',p,n,ps,b,h1,h2,h3,h4⟩:=ansI_def fs left f k hd h0
 rw [h3,h4]
 exact def_own h1 h2
theorem topA_own {fs:List Fl} {f:Nat} {x:List UInt8} (h0:0≤(topA fs f x).2.1):Own (allU fs) (topA fs f x).1 (topA fs f x).2.1:=by
 unfold topA at h0 ⊢
 cases ht:topI (itemsOf fs f) x with
 | none=>rw [ht] at h0;exact absurd h0 (by simp)
 | some k =>
  rw [ht] at h0
  obtain ⟨it,hit,hc,hne⟩:=topI_name ht
  refine ansI_own (fun p n ps b e=>?_) h0
  rw [hit] at e
  cases e
  rw [← hc] at hne;exact hne
theorem itU_tgt {fs:List Fl} {f k:Nat} {it:It} (h:(itemsOf fs f)[k]?=some it):∀ u∈itU fs f k it,Tgt (allU fs) u:=by
 have hm:=allU_mem h
 cases it with
 | use p m n gs a =>
  have hd:∀ p n ps b,(itemsOf fs f)[k]?=some (.dfn p n ps b)→n.1≠[]:=fun p n ps b e=>by rw [h] at e;cases e
  intro u hu
  simp only [itU] at hu
  rcases List.mem_append.1 hu with g|g
  ·refine tellU_tgt (fun _ h0=>?_) u g
   cases hq:modI fs m.1 with
   | none=>rw [hq] at h0;exact absurd h0 (by simp)
   | some f'=>rw [hq] at h0;exact absurd h0 (by simp)
  ·rcases List.mem_append.1 g with g|g
   ·refine tellU_tgt (fun _ h0=>?_) u g
    exact ansI_own (left:=usesN fs) hd h0
   ·refine tellU_tgt (fun _ h0=>?_) u g
    exact ansI_own (left:=usesN fs) hd h0
 | dfn p n ps b =>
  simp only [itU] at hm ⊢
  have m1:∀ u∈ownU f n 0 (twiceE (itemsOf fs f) k n.1),u∈allU fs:=fun u hu=>hm u (List.mem_append_left _ hu)
  obtain ⟨p1,p2⟩:=parU_own (f:=f) (l:=allU fs) (ps.getD []) [] (fun u hu=>hm u (List.mem_append_right _ (List.mem_append_left _ hu)))
  intro u hu
  rcases List.mem_append.1 hu with g|g
  ·exact ownU_tgt (by decide) m1 u g
  ·rcases List.mem_append.1 g with g|g
   ·exact p1 u g
   ·refine exU_own (fun x _ h0=>topA_own h0) b _ (fun b' hb' m hmb hne=>?_) (fun u hu=>hm u (List.mem_append_right _ (List.mem_append_right _ hu))) u g
    cases ps with
    | none=>cases hb'
    | some ns =>
     obtain rfl:=List.mem_singleton.1 hb'
     exact p2 m hmb hne
theorem itsU_get {fs:List Fl} {f:Nat}:∀ {l:List It} {k:Nat} {u:U},u∈itsU fs f k l→∃ j it,l[j]?=some it∧u∈itU fs f (k+j) it
 | [],k,u,h=>by rw [itsU] at h;cases h
 | a::l,k,u,h=>by
  rw [itsU] at h
  rcases List.mem_append.1 h with g|g
  ·exact ⟨0,a,rfl,g⟩
  ·obtain ⟨j,it,h1,h2⟩:=itsU_get g
   refine ⟨j+1,it,by simpa using h1,?_⟩
   rw [show k+(j+1)=k+1+j by omega];exact h2
theorem allU_tgt (fs:List Fl):∀ u∈allU fs,Tgt (allU fs) u:=by
 intro u hu
 obtain ⟨f,-,h2⟩:=List.mem_flatMap.1 hu
 obtain ⟨j,it,h3,h4⟩:=itsU_get h2
 rw [Nat.zero_add] at h4
 exact itU_tgt h3 u h4
end X
end Go.Proofs.YtbmebfgapjhchaaGreatDoor
/- Plain mathematics: names are told once each,from the left. -/
namespace Go.Proofs.YtbmebfgapjhchaaGreatDoor
open M
namespace X
theorem tellU_file {f:Nat} {n:Nm} {s:Nat} {a:An}:∀ u∈tellU f n s a,u.f=f:=by
 intro u hu
 unfold tellU at hu
 split at hu
 ·cases hu
 ·obtain rfl:=List.mem_singleton.1 hu;rfl
theorem parU_file {f:Nat}:∀ (ns seen:List Nm),∀ u∈parU f seen ns,u.f=f
 | [],_,u,h=>by cases h
 | n::ns,seen,u,h=>by
  rw [parU] at h
  rcases List.mem_append.1 h with g|g
  ·exact tellU_file u g
  ·exact parU_file ns _ u g
mutual
theorem exU_file {f:Nat} {top:List UInt8→An}:∀ (e:Ex) (sc:List (List Nm)),∀ u∈exU f top sc e,u.f=f
 | .lit _ _,sc=>fun u hu=>by rw [exU] at hu;cases hu
 | .hole _,sc=>fun u hu=>by rw [exU] at hu;cases hu
 | .missing,sc=>fun u hu=>by rw [exU] at hu;cases hu
 | .var n,sc=>by rw [exU];exact tellU_file
 | .lett n v b,sc=>fun u hu=>by
  rw [exU] at hu
  rcases List.mem_append.1 hu with g|g
  ·exact tellU_file u g
  ·rcases List.mem_append.1 g with g|g
   ·exact exU_file v sc u g
   ·exact exU_file b _ u g
 | .ite a b c,sc=>fun u hu=>by
  rw [exU] at hu
  rcases List.mem_append.1 hu with g|g
  ·exact exU_file a sc u g
  ·rcases List.mem_append.1 g with g|g
   ·exact exU_file b sc u g
   ·exact exU_file c sc u g
 | .fn ns b,sc=>fun u hu=>by
  rw [exU] at hu
  rcases List.mem_append.1 hu with g|g
  ·exact parU_file ns _ u g
  ·exact exU_file b _ u g
 | .bin a _ b,sc=>fun u hu=>by
  rw [exU] at hu
  rcases List.mem_append.1 hu with g|g
  ·exact exU_file a sc u g
  ·exact exU_file b sc u g
 | .call a l,sc=>fun u hu=>by
  rw [exU] at hu
  rcases List.mem_append.1 hu with g|g
  ·exact exU_file a sc u g
  ·exact exUs_file l sc u g
 | .list l,sc=>fun u hu=>by
  rw [exU] at hu
  exact exUs_file l sc u hu
 | .group e,sc=>fun u hu=>by
  rw [exU] at hu
  exact exU_file e sc u hu
theorem exUs_file {f:Nat} {top:List UInt8→An}:∀ (es:List Ex) (sc:List (List Nm)),∀ u∈exUs f top sc es,u.f=f
 | [],sc=>fun u hu=>by rw [exUs] at hu;cases hu
 | e::es,sc=>fun u hu=>by
  rw [exUs] at hu
  rcases List.mem_append.1 hu with g|g
  ·exact exU_file e sc u g
  ·exact exUs_file es sc u g
end
theorem itU_file {fs:List Fl} {f k:Nat} (it:It):∀ u∈itU fs f k it,u.f=f:=by
 intro u hu
 cases it with
 | use p m n gs a =>
  simp only [itU] at hu
  rcases List.mem_append.1 hu with g|g
  ·exact tellU_file u g
  ·rcases List.mem_append.1 g with g|g
   ·exact tellU_file u g
   ·exact tellU_file u g
 | dfn p n ps b =>
  simp only [itU] at hu
  rcases List.mem_append.1 hu with g|g
  ·exact tellU_file u g
  ·rcases List.mem_append.1 g with g|g
   ·exact parU_file _ _ u g
   ·exact exU_file b _ u g
theorem asp_at {ps:List Part} {i:Nat} {b:Bool} {a:Nm} (h:Asp ps i b a):a.1≠[]→i≤a.2∧a.2<i+pz ps:=by
 cases h with
 | yes t n k qs _ nm h hn =>
  intro hx
  have:=nmp_at hn hx
  rw [pz_app];omega
 | no _=>intro hx;exact absurd rfl hx
theorem itU_btw {fs:List Fl} {f k:Nat} {p:Part} {i:Nat} {it:It} (h:Rdi p i it):Between i (i+pz [p]) (itU fs f k it):=by
 cases h with
 | use pb t1 n1 t2 n2 ap t3 _ pub gs m n a hp h1 hm h2 hn ha h3 =>
  simp only [itU]
  rw [pz_br,pz_app,pz_app,pz_app,pz_app,pz_app,pz_app]
  refine Between.app (mi:=i+pz pb+pz t1+pz n1) ((tellU_btw (nmp_at hm)).wide (by omega) (by omega)) ?_ (by omega) (by omega)
  refine Between.app (mi:=i+pz pb+pz t1+pz n1+pz t2+pz n2) ((tellU_btw (nmp_at hn)).wide (by omega) (by omega)) ((tellU_btw (asp_at ha)).wide (by omega) (by omega)) (by omega) (by omega)
 | dfn pb t1 n1 pr t2 p t3 _ pub n ps e hp h1 hn hr h2 he h3 =>
  simp only [itU]
  rw [pz_br,pz_app,pz_app,pz_app,pz_app,pz_app,pz_app]
  have be:=(exU_btw f (topA fs f) (psz p)).1 p _ e (Nat.le_refl _) he
  have bp:Between (i+pz pb+pz t1+pz n1) (i+pz pb+pz t1+pz n1+pz pr) (parU f [] (ps.getD [])):=by
   cases hr with
   | yes qs _ ns h =>
    rw [pz_br];exact parU_btw h []
   | no _=>exact .nil
  refine Between.app (mi:=i+pz pb+pz t1+pz n1) ((tellU_btw (nmp_at hn)).wide (by omega) (by omega)) ?_ (by omega) (by omega)
  exact Between.app (mi:=i+pz pb+pz t1+pz n1+pz pr) bp ((be _).wide (by omega) (by omega)) (by omega) (by omega)
theorem itsU_btw {fs:List Fl} {f:Nat} {ps:List Part} {i:Nat} {its:List It} (h:Rdf ps i its):∀ k,Between i (i+pz ps) (itsU fs f k its):=by
 induction h with
 | leaves ps i h=>intro k;rw [itsU];exact .nil
 | junk qs ps i its hq h ih =>
  intro k
  rw [pz_cons]
  exact (ih k).wide (by omega) (by omega)
 | item p ps i it its hp h ih =>
  intro k
  rw [itsU,pz_cons]
  exact Between.app (mi:=i+pz [p]) (itU_btw hp) ((ih (k+1)).wide (Nat.le_refl _) (by omega)) (by omega) (by omega)
theorem itsU_file {fs:List Fl} {f:Nat} {l:List It} {k:Nat} {u:U} (h:u∈itsU fs f k l):u.f=f:=by
 obtain ⟨j,it,-,h2⟩:=itsU_get h
 exact itU_file it u h2
theorem allU_once {fs:List Fl} (h:∀ f,f<fs.length→∃ ps,Rdf ps 0 (itemsOf fs f)):(allU fs).Pairwise (fun a b=>¬(a.f=b.f∧a.i=b.i)):=by
 unfold allU
 have key:∀ n,n≤fs.length→((List.range n).flatMap fun f=>itsU fs f 0 (itemsOf fs f)).Pairwise (fun a b=>¬(a.f=b.f∧a.i=b.i))∧∀ u∈((List.range n).flatMap fun f=>itsU fs f 0 (itemsOf fs f)),u.f<n:=by
  intro n
  induction n with
  | zero=>intro _;exact ⟨List.Pairwise.nil,fun u hu=>by cases hu⟩
  | succ n ih =>
   intro hn
   obtain ⟨h1,h2⟩:=ih (by omega)
   rw [List.range_succ,List.flatMap_append]
   have e1:([n].flatMap fun f=>itsU fs f 0 (itemsOf fs f))=itsU fs n 0 (itemsOf fs n):=by simp
   rw [e1]
   obtain ⟨ps,hps⟩:=h n (by omega)
   have hb:=(itsU_btw (fs:=fs) (f:=n) hps 0).1
   refine ⟨List.pairwise_append.2 ⟨h1,hb.imp (fun hlt he=>by omega),fun a ha b hb' he=>?_⟩,fun u hu=>?_⟩
   ·have:=h2 a ha
    have:=itsU_file hb'
    omega
   ·rcases List.mem_append.1 hu with g|g
    ·have:=h2 u g;omega
    ·have:=itsU_file g;omega
 exact (key fs.length (Nat.le_refl _)).1
theorem allU_stands {fs:List Fl} (h:∀ f,f<fs.length→∃ ps,Rdf ps 0 (itemsOf fs f)):∀ u∈allU fs,0≤u.tt→((allU fs).filter (fun v=>decide ((v.f:Int)=u.tf∧(v.i:Int)=u.tt))).length=1∧∀ v∈allU fs,(v.f:Int)=u.tf→(v.i:Int)=u.tt→v.tf=v.f∧v.tt=v.i∧v.s≤2:=by
 intro u hu h0
 obtain ⟨v,hv,e1,e2,e3,e4,e5⟩:=allU_tgt fs u hu h0
 have hp:=allU_once h
 generalize allU fs=l at *
 have uniq:∀ v'∈l,(v'.f:Int)=u.tf→(v'.i:Int)=u.tt→v'=v:=by
  intro v' hv' a1 a2
  rcases Classical.em (v'=v) with g|g
  ·exact g
  ·exfalso
   obtain ⟨a,ha,rfl⟩:=List.getElem_of_mem hv'
   obtain ⟨b,hb,rfl⟩:=List.getElem_of_mem hv
   have hs:=List.pairwise_iff_getElem.1 hp
   rcases Nat.lt_trichotomy a b with q|q|q
   ·exact hs a b ha hb q ⟨by omega,by omega⟩
   ·subst q;exact g rfl
   ·exact hs b a hb ha q ⟨by omega,by omega⟩
 refine ⟨?_,fun v' hv' a1 a2=>by rw [uniq v' hv' a1 a2];exact ⟨e3,e4,e5⟩⟩
 have hne:l.Pairwise (fun a b=>a≠b):=hp.imp (fun h e=>h ⟨by rw [e],by rw [e]⟩)
 have hf:l.filter (fun v'=>decide ((v'.f:Int)=u.tf∧(v'.i:Int)=u.tt))=l.filter (fun v'=>decide (v'=v)):=by
  refine List.filter_congr fun x hx=>?_
  rw [decide_eq_decide]
  constructor
  ·rintro ⟨a1,a2⟩;exact uniq x hx a1 a2
  ·rintro rfl;exact ⟨e1,e2⟩
 rw [hf]
 clear hf uniq hp hu
 induction l with
 | nil=>cases hv
 | cons a l ih =>
  rw [List.pairwise_cons] at hne
  rw [List.filter_cons]
  rcases List.mem_cons.1 hv with rfl|g
  ·rw [if_pos (by simp)]
   have:l.filter (fun v'=>decide (v'=v))=[]:=List.filter_eq_nil_iff.2 fun x hx=>by
    have:=hne.1 x hx
    simp only [decide_eq_true_eq]
    exact fun e=>this e.symm
   rw [this];rfl
  ·have hav:a≠v:=hne.1 v g
   rw [if_neg (by simpa using hav)]
   exact ih g hne.2
end X
end Go.Proofs.YtbmebfgapjhchaaGreatDoor
/- Plain mathematics: uses that lead to uses,and rings of them. -/
namespace Go.Proofs.YtbmebfgapjhchaaGreatDoor
open M
namespace X
def stp (fs:List Fl) (f k:Nat):Sum An (Nat × Nat) :=
 match (itemsOf fs f)[k]? with
 | none=>.inl (-1,-1,4)
 | some (.dfn _ n _ _)=>.inl (f,n.2,0)
 | some (.use _ m n _ _)=>match modI fs m.1 with
  | none=>.inl (-1,-1,4)
  | some f'=>match topI (itemsOf fs f') n.1 with
   | none=>.inl (-1,-1,4)
   | some k'=>match (itemsOf fs f')[k']? with
    | none=>.inl (-1,-1,4)
    | some it=>if shown it=false∧f'≠f then .inl (-1,-1,6) else
     match it with
     | .dfn _ d _ _=>.inl (f',d.2,0)
     | .use _ _ _ _ _=>.inr (f',k')
theorem ansI_stp (fs:List Fl) (left f k:Nat):ansI fs left f k=match stp fs f k with
  | .inl a=>a
  | .inr p=>match left with
   | 0=>(-1,-1,7)
   | l+1=>ansI fs l p.1 p.2:=by
 unfold stp
 rw [ansI.eq_def]
 dsimp only
 cases hk:(itemsOf fs f)[k]? with
 | none=>simp only
 | some it =>
  cases it with
  | dfn p n ps b=>simp only
  | use p m n gs a =>
   simp only
   cases hm:modI fs m.1 with
   | none=>simp only
   | some f' =>
    simp only
    cases ht:topI (itemsOf fs f') n.1 with
    | none=>simp only
    | some k' =>
     simp only
     cases hi:(itemsOf fs f')[k']? with
     | none=>simp only
     | some it =>
      simp only
      by_cases hs:shown it=false∧f'≠f
      ·rw [if_pos hs,if_pos hs]
      ·rw [if_neg hs,if_neg hs]
       cases left with
       | zero=>cases it<;>simp only
       | succ left =>
        cases it with
        | dfn p d ps b =>
         simp only
         rw [ansI.eq_def]
         dsimp only
         rw [hi]
        | use _ _ _ _ _=>simp only
theorem ansI_end {fs:List Fl} {f k:Nat} {a:An} (h:stp fs f k=.inl a) (n:Nat):ansI fs n f k=a:=by rw [ansI_stp,h]
theorem ansI_zero {fs:List Fl} {f k:Nat} {p:Nat × Nat} (h:stp fs f k=.inr p):ansI fs 0 f k=(-1,-1,7):=by rw [ansI_stp,h]
theorem ansI_succ {fs:List Fl} {f k:Nat} {p:Nat × Nat} (h:stp fs f k=.inr p) (n:Nat):ansI fs (n+1) f k=ansI fs n p.1 p.2:=by rw [ansI_stp,h]
def on (fs:List Fl):Nat→Nat × Nat→Option (Nat × Nat)
 | 0,p=>some p
 | n+1,p=>match stp fs p.1 p.2 with|.inl _=>none|.inr q=>on fs n q
theorem on_app (fs:List Fl):∀ (i j:Nat) (p q:Nat × Nat),on fs i p=some q→on fs (i+j) p=on fs j q
 | 0,j,p,q,h=>by
  cases h
  rw [Nat.zero_add]
 | i+1,j,p,q,h=>by
  rw [show i+1+j=(i+j)+1 by omega]
  rw [on] at h ⊢
  cases hs:stp fs p.1 p.2 with
  | inl a=>rw [hs] at h;cases h
  | inr r =>
   rw [hs] at h
   exact on_app fs i j r q h
theorem on_snoc {fs:List Fl} {i:Nat} {p q r:Nat × Nat} (h:on fs i p=some q) (hs:stp fs q.1 q.2=.inr r):on fs (i+1) p=some r:=by
 rw [on_app fs i 1 p q h,on,hs]
 rfl
theorem on_ans {fs:List Fl}:∀ (m:Nat) (p q:Nat × Nat),on fs m p=some q→∀ n,ansI fs n p.1 p.2=if n<m then (-1,-1,7) else ansI fs (n - m) q.1 q.2
 | 0,p,q,h,n=>by
  cases h
  rw [if_neg (by omega)];rfl
 | m+1,p,q,h,n=>by
  rw [on] at h
  cases hs:stp fs p.1 p.2 with
  | inl a=>rw [hs] at h;cases h
  | inr r =>
   rw [hs] at h
   cases n with
   | zero=>rw [if_pos (by omega),ansI_zero hs]
   | succ n =>
    rw [ansI_succ hs,on_ans m r q h n]
    by_cases hn:n<m
    ·rw [if_pos hn,if_pos (by omega)]
    ·rw [if_neg hn,if_neg (by omega),show n+1 - (m+1)=n - m by omega]
def EvA (fs:List Fl) (f k:Nat) (a:An):Prop:=∃ n0,∀ n,n0≤n→ansI fs n f k=a
theorem EvA.fin {fs:List Fl} {f k:Nat} {a:An} (h:stp fs f k=.inl a):EvA fs f k a:=⟨0,fun n _=>ansI_end h n⟩
theorem EvA.step {fs:List Fl} {f k:Nat} {p:Nat × Nat} {a:An} (h:stp fs f k=.inr p) (he:EvA fs p.1 p.2 a):EvA fs f k a:=by
 obtain ⟨n0,h0⟩:=he
 refine ⟨n0+1,fun n hn=>?_⟩
 obtain ⟨m,rfl⟩:∃ m,n=m+1:=⟨n - 1,by omega⟩
 rw [ansI_succ h]
 exact h0 m (by omega)
theorem ring_ans {fs:List Fl} {j:Nat} {p:Nat × Nat} (h:on fs (j+1) p=some p):∀ n,ansI fs n p.1 p.2=(-1,-1,7):=by
 intro n
 induction n using Nat.strongRecOn with
 | _ n ih =>
  rw [on_ans (j+1) p p h n]
  split
  ·rfl
  ·exact ih _ (by omega)
theorem EvA.ring {fs:List Fl} {j f k:Nat} (h:on fs (j+1) (f,k)=some (f,k)):EvA fs f k (-1,-1,7):=⟨0,fun n _=>ring_ans h n⟩
theorem EvA.one {fs:List Fl} {f k:Nat} {a b:An} (h1:EvA fs f k a) (h2:EvA fs f k b):a=b:=by
 obtain ⟨n1,g1⟩:=h1
 obtain ⟨n2,g2⟩:=h2
 rw [← g1 (n1+n2) (by omega),← g2 (n1+n2) (by omega)]
/-! How many uses there are. -/
theorem nodup_le {α:Type} [DecidableEq α]:∀ (l m:List α),l.Pairwise (·≠·)→(∀ x∈l,x∈m)→l.length≤m.length
 | [],m,_,_=>Nat.zero_le _
 | a::l,m,hn,hs=>by
  rw [List.pairwise_cons] at hn
  have ha:=hs a (by simp)
  have:=nodup_le l (m.erase a) hn.2 (fun x hx=>(List.mem_erase_of_ne (fun e=>hn.1 x hx e.symm)).2 (hs x (by simp [hx])))
  rw [List.length_erase_of_mem ha] at this
  have hp:0<m.length:=List.length_pos_of_mem ha
  rw [List.length_cons];omega
theorem cnt_range {α:Type} (p:α→Bool):∀ l:List α,((List.range l.length).filter (fun k=>(l[k]?).any p)).length=(l.filter p).length
 | []=>rfl
 | a::l=>by
  rw [List.length_cons,List.range_succ_eq_map,List.filter_cons,List.filter_map,List.filter_cons]
  have ih:=cnt_range p l
  have e:(fun k=>((a::l)[k]?).any p) ∘ Nat.succ=fun k=>(l[k]?).any p:=by
   funext k;simp
  rw [e]
  cases hp:p a<;>simp [hp,ih]
theorem sum_range {α:Type} (h:α→Nat) (d:α):∀ l:List α,((List.range l.length).map (fun i=>h (l.getD i d))).sum=(l.map h).sum
 | []=>rfl
 | a::l=>by
  rw [List.length_cons,List.range_succ_eq_map,List.map_cons,List.map_map,List.sum_cons,List.map_cons,List.sum_cons,← sum_range h d l]
  rfl
def isUse:It→Bool
 | .use _ _ _ _ _=>true
 | _=>false
def useP (fs:List Fl):List (Nat × Nat):=(List.range fs.length).flatMap fun f=>((List.range (itemsOf fs f).length).filter (fun k=>((itemsOf fs f)[k]?).any isUse)).map fun k=>(f,k)
theorem useP_len (fs:List Fl):(useP fs).length=usesN fs:=by
 unfold useP usesN
 rw [List.length_flatMap]
 have e:(fun f=>(((List.range (itemsOf fs f).length).filter (fun k=>((itemsOf fs f)[k]?).any isUse)).map fun k=>(f,k)).length)=fun f=>(fun (x:Fl)=>(x.2.filter isUse).length) (fs.getD f ([],[])):=by
  funext f
  rw [List.length_map,cnt_range]
  rfl
 rw [e,sum_range (fun (x:Fl)=>(x.2.filter isUse).length) ([],[]) fs]
 congr 1
theorem useP_mem {fs:List Fl} {f k:Nat} {it:It} (h:(itemsOf fs f)[k]?=some it) (hu:isUse it=true):(f,k)∈useP fs:=by
 refine List.mem_flatMap.2 ⟨f,List.mem_range.2 (itemsOf_lt h),List.mem_map.2 ⟨k,List.mem_filter.2 ⟨List.mem_range.2 ?_,?_⟩,rfl⟩⟩
 ·rcases Nat.lt_or_ge k (itemsOf fs f).length with g|g
  ·exact g
  ·rw [List.getElem?_eq_none g] at h;cases h
 ·rw [h];exact hu
theorem stp_use {fs:List Fl} {f k:Nat} {p:Nat × Nat} (h:stp fs f k=.inr p):∃ it,(itemsOf fs f)[k]?=some it∧isUse it=true:=by
 unfold stp at h
 cases hk:(itemsOf fs f)[k]? with
 | none=>rw [hk] at h;cases h
 | some it =>
  rw [hk] at h
  cases it with
  | dfn p n ps b=>cases h
  | use p m n gs a=>exact ⟨_,rfl,rfl⟩
theorem on_lt {fs:List Fl} {m:Nat} {p q:Nat × Nat} (h:on fs m p=some q) (i:Nat) (hi:i≤m):∃ r,on fs i p=some r∧on fs (m - i) r=some q:=by
 cases hr:on fs i p with
 | none =>
  exfalso
  have key:∀ (i:Nat) (p:Nat × Nat) (j:Nat),on fs i p=none→on fs (i+j) p=none:=by
   intro i
   induction i with
   | zero=>intro p j h;cases h
   | succ i ih =>
    intro p j h
    rw [show i+1+j=(i+j)+1 by omega]
    rw [on] at h ⊢
    cases hs:stp fs p.1 p.2 with
    | inl a=>rfl
    | inr r=>rw [hs] at h;exact ih r j h
  have:=key i p (m - i) hr
  rw [show i+(m - i)=m by omega,h] at this
  cases this
 | some r =>
  refine ⟨r,rfl,?_⟩
  rw [← on_app fs i (m - i) p r hr,show i+(m - i)=m by omega]
  exact h
theorem on_short {fs:List Fl} {m:Nat} {p q:Nat × Nat} {a:An} (h:on fs m p=some q) (hq:stp fs q.1 q.2=.inl a):m≤usesN fs:=by
 rw [← useP_len]
 have hl:((List.range m).map fun i=>(on fs i p).getD (0,0)).length=m:=by simp
 rw [← hl]
 refine nodup_le _ _ ?_ (fun x hx=>?_)
 ·refine List.pairwise_map.2 ?_
  refine (List.pairwise_lt_range (n:=m)).imp_of_mem ?_
  intro i j hi hj hij he
  have hi':=List.mem_range.1 hi
  have hj':=List.mem_range.1 hj
  obtain ⟨r,hr,hr2⟩:=on_lt h i (by omega)
  obtain ⟨s,hs,hs2⟩:=on_lt h j (by omega)
  rw [hr,hs] at he
  have he':r=s:=he
  subst he'
  have e1:on fs ((m - j)+(j - i)) r=some q:=by rw [show m - j+(j - i)=m - i by omega];exact hr2
  rw [on_app fs (m - j) (j - i) r q hs2] at e1
  obtain ⟨t,ht⟩:∃ t,j - i=t+1:=⟨j - i - 1,by omega⟩
  rw [ht,on,hq] at e1
  cases e1
 ·obtain ⟨i,hi,rfl⟩:=List.mem_map.1 hx
  have hi':=List.mem_range.1 hi
  obtain ⟨r,hr,hr2⟩:=on_lt h i (by omega)
  rw [hr]
  show r∈_
  obtain ⟨t,ht⟩:∃ t,m - i=t+1:=⟨m - i - 1,by omega⟩
  rw [ht,on] at hr2
  cases hs:stp fs r.1 r.2 with
  | inl a=>rw [hs] at hr2;cases hr2
  | inr r' =>
   obtain ⟨it,h1,h2⟩:=stp_use hs
   exact useP_mem h1 h2
theorem on_ends (fs:List Fl) (p:Nat × Nat):(∃ m q a,on fs m p=some q∧stp fs q.1 q.2=.inl a)∨∀ m,∃ q,on fs m p=some q:=by
 rcases Classical.em (∀ m,∃ q,on fs m p=some q) with h|h
 ·exact .inr h
 ·left
  have ⟨m,hm⟩:=Classical.not_forall.1 h
  have hm':on fs m p=none:=by
   cases he:on fs m p with
   | none=>rfl
   | some q=>exact absurd ⟨q,he⟩ hm
  clear hm h
  induction m with
  | zero=>cases hm'
  | succ m ih =>
   cases he:on fs m p with
   | none=>exact ih he
   | some q =>
    refine ⟨m,q,?_⟩
    rw [on_app fs m 1 p q he,on] at hm'
    cases hs:stp fs q.1 q.2 with
    | inl a=>exact ⟨a,he,rfl⟩
    | inr r=>rw [hs] at hm';cases hm'
theorem EvA.uses {fs:List Fl} {f k:Nat} {a:An} (h:EvA fs f k a):ansI fs (usesN fs) f k=a:=by
 obtain ⟨n0,h0⟩:=h
 rcases on_ends fs (f,k) with ⟨m,q,b,h1,h2⟩|h
 ·have hm:=on_short h1 h2
  have e1:=on_ans m (f,k) q h1 (usesN fs)
  rw [if_neg (by omega),ansI_end h2] at e1
  have e2:=on_ans m (f,k) q h1 (n0+usesN fs)
  rw [if_neg (by omega),ansI_end h2] at e2
  have e3:=h0 (n0+usesN fs) (by omega)
  exact e1.trans (e2.symm.trans e3)
 ·obtain ⟨q,h1⟩:=h (usesN fs+1)
  have e1:=on_ans _ (f,k) q h1 (usesN fs)
  rw [if_pos (by omega)] at e1
  obtain ⟨q2,h2⟩:=h (n0+1)
  have e2:=on_ans _ (f,k) q2 h2 n0
  rw [if_pos (by omega)] at e2
  exact e1.trans (e2.symm.trans (h0 n0 (Nat.le_refl _)))
end X
end Go.Proofs.YtbmebfgapjhchaaGreatDoor
/- Plain mathematics: names are no longer than the text,and stand in it. -/
namespace Go.Proofs.YtbmebfgapjhchaaGreatDoor
open M
namespace X
def nmB (B:Nat) (n:Nm):Prop:=n.1.length≤B∧n.2≤B
mutual
def exB (B:Nat):Ex→Prop
 | .lit _ _=>True
 | .hole _=>True
 | .missing=>True
 | .var n=>nmB B n
 | .lett n v b=>nmB B n∧exB B v∧exB B b
 | .ite a b c=>exB B a∧exB B b∧exB B c
 | .fn ns b=>(∀ n∈ns,nmB B n)∧exB B b
 | .bin l _ r=>exB B l∧exB B r
 | .call f gs=>exB B f∧gs.length≤B∧exBs B gs
 | .list l=>l.length≤B∧exBs B l
 | .group e=>exB B e
def exBs (B:Nat):List Ex→Prop
 | []=>True
 | e::l=>exB B e∧exBs B l
end
def itB (B:Nat):It→Prop
 | .use _ m n _ a=>nmB B m∧nmB B n∧nmB B a
 | .dfn _ n ps b=>nmB B n∧(∀ m∈ps.getD [],nmB B m)∧exB B b
theorem nmp_B {ps:List Part} {i:Nat} {nm:Nm} (h:Nmp ps i nm) {B:Nat} (hB:i+pz ps≤B):nmB B nm:=by
 cases h with
 | name _ x qs _ h =>
  have e:=pz_tk1 h
  exact ⟨by show x.length≤B;omega,by show i+pz qs≤B;omega⟩
 | miss _=>exact ⟨Nat.zero_le _,Nat.zero_le _⟩
theorem nms_B {ps:List Part} {i:Nat} {ns:List Nm} (h:Nms ps i ns):∀ {B:Nat},i+pz ps≤B→∀ n∈ns,nmB B n:=by
 induction h with
 | nil i=>intro B _ n hn;cases hn
 | name x ps i ns h ih =>
  intro B hB n hn
  rw [pz_cons,pz_leaf] at hB
  rcases List.mem_cons.1 hn with rfl|g
  ·exact ⟨by show x.length≤B;omega,by show i≤B;omega⟩
  ·exact ih (by omega) n g
 | leaf k x ps i ns hk h ih =>
  intro B hB n hn
  rw [pz_cons,pz_leaf] at hB
  exact ih (by omega) n hn
 | lack ps i ns h ih =>
  intro B hB n hn
  rw [pz_cons] at hB
  rcases List.mem_cons.1 hn with rfl|g
  ·exact ⟨Nat.zero_le _,Nat.zero_le _⟩
  ·exact ih (by omega) n g
 | miss m ps i ns hm h ih =>
  intro B hB n hn
  rw [pz_cons] at hB
  exact ih (by omega) n hn
theorem rds_len:∀ {ps:List Part} {i:Nat} {es:List Ex},Rds ps i es→es.length≤pssz ps
 | [],i,es,h=>by cases h;exact Nat.zero_le _
 | q::ps,i,es,h=>by
  rw [pssz]
  have hq:=psz_pos q
  cases h with
  | leaf k x _ _ _ h=>have:=rds_len h;omega
  | miss m _ _ _ hm h=>have:=rds_len h;omega
  | cons _ _ _ e es hp h=>have:=rds_len h;rw [List.length_cons];omega
theorem rd_B (B:Nat):∀ n:Nat,n≤B→(∀ (p:Part) (i:Nat) (e:Ex),psz p≤n→Rd p i e→i+pz [p]≤B→exB B e)∧(∀ (ps:List Part) (i:Nat) (es:List Ex),pssz ps≤n→Rds ps i es→i+pz ps≤B→exBs B es):=by
 intro n
 induction n with
 | zero =>
  intro _
  refine ⟨fun p i e h=>?_,fun ps i es h hr _=>?_⟩
  ·have:=psz_pos p;omega
  ·cases ps with
   | nil=>cases hr;rw [exBs];trivial
   | cons p ps=>rw [pssz] at h;have:=psz_pos p;omega
 | succ n ih0 =>
  intro hnB
  have ih:=ih0 (by omega)
  have hE:∀ (p:Part) (i:Nat) (e:Ex),psz p≤n+1→Rd p i e→i+pz [p]≤B→exB B e:=by
   intro p i e hn hr hB
   cases hr with
   | missing _=>rw [exB];trivial
   | lit k t x ps qs _ hk h=>rw [exB];trivial
   | hole t x ps qs _ h=>rw [exB];trivial
   | var x ps qs _ h =>
    rw [exB]
    rw [pz_br,pz_tk1 h] at hB
    exact ⟨by show x.length≤B;omega,by show i+pz qs≤B;omega⟩
   | lett t1 n1 t2 t3 p1 p2 _ nm e1 e2 h1 hn1 h2 hv h3 hb =>
    rw [psz,pssz_append,pssz_append,pssz_append,pssz_append,pssz_append,pssz_one,pssz_one] at hn
    rw [pz_br,pz_app,pz_app,pz_app,pz_app,pz_app] at hB
    rw [exB]
    exact ⟨nmp_B hn1 (by omega),ih.1 p1 _ e1 (by omega) hv (by omega),ih.1 p2 _ e2 (by omega) hb (by omega)⟩
   | ite ps _ a b c h =>
    rw [psz] at hn
    rw [pz_br] at hB
    rw [exB]
    have:=ih.2 ps i [a,b,c] (by omega) h hB
    rw [exBs,exBs,exBs] at this
    exact ⟨this.1,this.2.1,this.2.2.1⟩
   | fn t1 qs t2 p _ ns e h1 hns h2 hb =>
    rw [psz,pssz_append,pssz_append,pssz_append,pssz_one,pssz_one] at hn
    rw [pz_br,pz_app,pz_app,pz_app,pz_br] at hB
    rw [exB]
    exact ⟨nms_B hns (by omega),ih.1 p _ e (by omega) hb (by omega)⟩
   | bin p1 p2 t qs k x _ e1 e2 hl h hr2 =>
    rw [psz,pssz_append,pssz_append,pssz_one,pssz_one] at hn
    rw [pz_br,pz_app,pz_app] at hB
    rw [exB]
    exact ⟨ih.1 p1 _ e1 (by omega) hl (by omega),ih.1 p2 _ e2 (by omega) hr2 (by omega)⟩
   | call p gs _ e es hc ha =>
    rw [psz,pssz_append,pssz_one,pssz_one,psz] at hn
    rw [pz_br,pz_app,pz_br] at hB
    rw [exB]
    have:=rds_len ha
    exact ⟨ih.1 p _ e (by omega) hc (by omega),by omega,ih.2 gs _ es (by omega) ha (by omega)⟩
   | list ps _ es h =>
    rw [psz] at hn
    rw [pz_br] at hB
    rw [exB]
    have:=rds_len h
    exact ⟨by omega,ih.2 ps i es (by omega) h hB⟩
   | group ps _ e h =>
    rw [psz] at hn
    rw [pz_br] at hB
    rw [exB]
    have:=ih.2 ps i [e] (by omega) h hB
    rw [exBs] at this
    exact this.1
  refine ⟨hE,fun ps i es hn hr hB=>?_⟩
  induction ps generalizing i es with
  | nil=>cases hr;rw [exBs];trivial
  | cons q ps ihp =>
   rw [pssz] at hn
   rw [pz_cons] at hB
   have hq:=psz_pos q
   cases hr with
   | leaf k x _ _ _ h =>
    rw [pz_leaf] at hB
    exact ihp (i+x.length) es (by omega) h (by omega)
   | miss m _ _ _ hm h =>
    exact ihp i es (by omega) h (by omega)
   | cons _ _ _ e es hp h =>
    rw [exBs]
    exact ⟨hE q i e (by omega) hp (by omega),ihp (i+pz [q]) es (by omega) h (by omega)⟩
theorem rdi_B {B:Nat} {p:Part} {i:Nat} {it:It} (h:Rdi p i it) (hB:i+pz [p]≤B) (hz:psz p≤B):itB B it:=by
 cases h with
 | use pb t1 n1 t2 n2 ap t3 _ pub gs m n a hp h1 hm h2 hn ha h3 =>
  rw [pz_br,pz_app,pz_app,pz_app,pz_app,pz_app,pz_app] at hB
  refine ⟨nmp_B hm (by omega),nmp_B hn (by omega),?_⟩
  cases ha with
  | yes t n k qs _ nm h hn' =>
   rw [pz_app] at hB
   exact nmp_B hn' (by omega)
  | no _=>exact ⟨Nat.zero_le _,Nat.zero_le _⟩
 | dfn pb t1 n1 pr t2 p t3 _ pub n ps e hp h1 hn hr h2 he h3 =>
  rw [pz_br,pz_app,pz_app,pz_app,pz_app,pz_app,pz_app] at hB
  rw [psz,pssz_append,pssz_append,pssz_append,pssz_append,pssz_append,pssz_append,pssz_one] at hz
  refine ⟨nmp_B hn (by omega),?_,(rd_B B (psz p) (by omega)).1 p _ e (Nat.le_refl _) he (by omega)⟩
  cases hr with
  | yes qs _ ns h =>
   rw [pz_br] at hB
   exact nms_B h (by omega)
  | no _=>intro m hm;cases hm
theorem rdf_B {B:Nat} {ps:List Part} {i:Nat} {its:List It} (h:Rdf ps i its):i+pz ps≤B→pssz ps≤B→∀ it∈its,itB B it:=by
 induction h with
 | leaves ps i h=>intro _ _ it hit;cases hit
 | junk qs ps i its hq h ih =>
  intro hB hz it hit
  rw [pz_cons] at hB
  rw [pssz] at hz
  exact ih (by omega) (by omega) it hit
 | item p ps i it its hp h ih =>
  intro hB hz it' hit
  rw [pz_cons] at hB
  rw [pssz] at hz
  rcases List.mem_cons.1 hit with rfl|g
  ·exact rdi_B hp (by omega) (by omega)
  ·exact ih (by omega) (by omega) it' g
end X
end Go.Proofs.YtbmebfgapjhchaaGreatDoor
