package message

import (
	"muster/api"
)

// parts.go: each part as fields, and back. The tags are the chapter's; what is written under one stands beside what is read under it.

// Tags of a message under which its parts stand, behind its own values.
const (
	eventTag  = 11
	answerTag = 12
	jobsTag   = 13
	pastTag   = 14
	runsTag   = 15
)

// allFields is all that m holds, but its kind, as fields: its own values, and each of its parts.
func allFields(m api.Message) [][]api.Field {
	all := [][]api.Field{ownFields(m), eventFields(m.Event), answerFields(m.Answer), pastFields(m.Past)}
	all = append(all, turned(m.Jobs, jobFields)...)
	return append(all, turned(m.Runs, runFields)...)
}

func ownFields(m api.Message) []api.Field {
	return gather(nil,
		number(1, m.Client), number(2, m.Request), number(3, m.Acked),
		number(4, m.Node), number(5, m.Epoch), number(6, m.Job),
		number(7, m.N), number(8, m.Cores), number(9, m.Left), text(10, m.Name))
}

func ownFrom(l []api.Field) api.Message {
	return api.Message{
		Client: numberIn[int](l, 1), Request: numberIn[int](l, 2), Acked: numberIn[int](l, 3),
		Node: numberIn[int](l, 4), Epoch: numberIn[int](l, 5), Job: numberIn[int](l, 6),
		N: numberIn[int64](l, 7), Cores: numberIn[int](l, 8), Left: numberIn[int64](l, 9), Name: textIn(l, 10),
	}
}

func eventFields(e api.Event) []api.Field {
	l := gather(nil, number(1, e.Kind), number(2, e.Id), number(3, e.N), text(4, e.Name), text(5, e.Text))
	l = gatherSpec(l, e.Spec)
	r := e.Resv
	return gather(l, text(14, r.Name), number(15, r.Nodes), number(16, r.From), number(17, r.To), texts(18, r.Accounts))
}

func eventFrom(l []api.Field) api.Event {
	return api.Event{
		Kind: numberIn[api.EventKind](l, 1), Id: numberIn[int](l, 2), N: numberIn[int](l, 3), Name: textIn(l, 4), Text: textIn(l, 5),
		Spec: specIn(l),
		Resv: api.Resv{
			Name: textIn(l, 14), Nodes: numberIn[api.Set](l, 15), From: numberIn[int64](l, 16), To: numberIn[int64](l, 17), Accounts: textsIn(l, 18),
		},
	}
}

// gatherSpec is l and behind it s, which stands under the same tags in events and in jobs.
func gatherSpec(l []api.Field, s api.Spec) []api.Field {
	deps := pairs(s.Deps, func(d api.Dep) []int64 { return []int64{int64(d.Kind), int64(d.Id)} })
	return gather(l,
		text(6, s.User), text(7, s.Account), text(8, s.Qos), text(9, s.Part),
		number(10, s.Nodes), number(11, s.Cores), number(12, s.Limit), numbers(13, deps))
}

func specIn(l []api.Field) api.Spec {
	return api.Spec{
		User: textIn(l, 6), Account: textIn(l, 7), Qos: textIn(l, 8), Part: textIn(l, 9),
		Nodes: numberIn[int](l, 10), Cores: numberIn[int](l, 11), Limit: numberIn[int64](l, 12),
		Deps: fromPairs(numbersIn(l, 13), func(kind, id int64) api.Dep { return api.Dep{Kind: api.DepKind(kind), Id: int(id)} }),
	}
}

func answerFields(a api.Answer) []api.Field {
	ids := turned(a.Ids, func(id int) int64 { return int64(id) })
	overs := pairs(a.Overs, func(o api.Over) []int64 { return []int64{int64(o.Id), int64(o.State)} })
	starts := pairs(a.Starts, func(s api.Start) []int64 { return []int64{int64(s.Id), int64(s.On)} })
	return gather(nil, number(1, a.Err), numbers(2, ids), numbers(3, overs), numbers(4, starts))
}

func answerFrom(l []api.Field) api.Answer {
	return api.Answer{
		Err:    numberIn[api.Errno](l, 1),
		Ids:    turned(numbersIn(l, 2), func(id int64) int { return int(id) }),
		Overs:  fromPairs(numbersIn(l, 3), func(id, state int64) api.Over { return api.Over{Id: int(id), State: api.JobState(state)} }),
		Starts: fromPairs(numbersIn(l, 4), func(id, on int64) api.Start { return api.Start{Id: int(id), On: api.Set(on)} }),
	}
}

func jobFields(j api.Job) []api.Field {
	l := gatherSpec(gather(nil, number(1, j.Id), number(2, j.Of), number(3, j.Index)), j.Spec)
	return gather(l,
		number(14, j.State), number(15, j.Submit), number(16, j.Start), number(17, j.End), number(18, j.On), number(19, j.Exit))
}

func jobFrom(l []api.Field) api.Job {
	return api.Job{
		Id: numberIn[int](l, 1), Of: numberIn[int](l, 2), Index: numberIn[int](l, 3),
		Spec:  specIn(l),
		State: numberIn[api.JobState](l, 14), Submit: numberIn[int64](l, 15), Start: numberIn[int64](l, 16), End: numberIn[int64](l, 17),
		On: numberIn[api.Set](l, 18), Exit: numberIn[int](l, 19),
	}
}

func pastFields(p api.Past) []api.Field {
	return gather(nil,
		number(1, p.Id), number(2, p.What), number(3, p.At), text(4, p.Account), text(5, p.User),
		number(6, p.Nodes), number(7, p.Cores), number(8, p.State))
}

func pastFrom(l []api.Field) api.Past {
	return api.Past{
		Id: numberIn[int](l, 1), What: numberIn[api.What](l, 2), At: numberIn[int64](l, 3), Account: textIn(l, 4), User: textIn(l, 5),
		Nodes: numberIn[int](l, 6), Cores: numberIn[int](l, 7), State: numberIn[api.JobState](l, 8),
	}
}

func runFields(r api.Run) []api.Field {
	return gather(nil,
		number(1, r.Id), text(2, r.Account), text(3, r.User), number(4, r.Nodes), number(5, r.Cores),
		number(6, r.State), number(7, r.Submit), number(8, r.Start), number(9, r.End))
}

func runFrom(l []api.Field) api.Run {
	return api.Run{
		Id: numberIn[int](l, 1), Account: textIn(l, 2), User: textIn(l, 3), Nodes: numberIn[int](l, 4), Cores: numberIn[int](l, 5),
		State: numberIn[api.JobState](l, 6), Submit: numberIn[int64](l, 7), Start: numberIn[int64](l, 8), End: numberIn[int64](l, 9),
	}
}
