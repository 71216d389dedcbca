package persist_test

import (
	"math"
	"math/rand"
	"slices"
	"strings"
	"testing"

	"waypost/api"
	"waypost/persist"
)

// P13.1

func TestConstants(t *testing.T) {
	if api.Open != open || api.Answering != answering || api.Closed != closed {
		t.Error(api.Open, api.Answering, api.Closed)
	}
	if api.Arrived != arrived || api.BadRequest != badRequest || api.Answered != answered || api.Ended != ended {
		t.Error(api.Arrived, api.BadRequest, api.Answered, api.Ended)
	}
	if api.MaxServed != mostServed {
		t.Error(api.MaxServed)
	}
}

func TestNew(t *testing.T) {
	for range 2 {
		if l := persist.New(); l != link(open, false, 0, 0) || persist.Check(l) != api.OK {
			t.Error(l)
		}
	}
}

func TestCheckExamples(t *testing.T) {
	for _, c := range []struct {
		l    api.Link
		want api.Errno
	}{
		{link(1, true, 0, 0), api.ErrForm},
		{link(1, false, 0, 200), api.ErrRange},
		{link(4, false, 0, 0), api.ErrState},
		{link(0, false, 0, 0), api.ErrState},
		{link(-1, false, 0, 0), api.ErrState},
		{link(math.MaxInt, false, 0, 0), api.ErrState},
		{link(1, false, 0, 0), api.OK},
		{link(2, false, 0, 0), api.OK},
		{link(2, true, 0, 0), api.OK},
		{link(3, false, 0, 0), api.OK},
		{link(3, true, 0, 0), api.ErrForm},
		{link(1, false, 1, 100), api.OK},
		{link(1, false, 1, 599), api.OK},
		{link(1, false, 1, 99), api.ErrRange},
		{link(1, false, 1, 600), api.ErrRange},
		{link(1, false, 1, 0), api.ErrRange},
		{link(1, false, 1, -200), api.ErrRange},
		{link(2, true, mostServed, 200), api.OK},
		{link(2, true, mostServed+1, 200), api.ErrRange},
		{link(1, false, -1, 200), api.ErrRange},
		{link(1, false, -1, 0), api.ErrRange},
		{link(1, false, math.MinInt, 200), api.ErrRange},
		{link(0, true, -1, 99), api.ErrState},
		{link(0, true, 0, 0), api.ErrState},
		{link(4, false, 0, 200), api.ErrState},
		{link(1, true, -1, 0), api.ErrRange},
		{link(3, true, 0, 200), api.ErrRange},
		{link(3, true, 1, 99), api.ErrRange},
	} {
		if got := persist.Check(c.l); got != c.want {
			t.Errorf("%v: %v, not %v", c.l, got, c.want)
		}
		checkLink(t, c.l)
	}
}

func TestManyLinks(t *testing.T) {
	for _, l := range links() {
		checkLink(t, l)
	}
}

func TestNumbersOfLinks(t *testing.T) {
	for n := -1100; n < 1100; n++ {
		for _, asked := range []bool{false, true} {
			for state := range 5 {
				checkLink(t, link(state, asked, 0, n))
				checkLink(t, link(state, asked, 1, n))
				checkLink(t, link(state, asked, mostServed, n))
				checkLink(t, link(state, asked, n, 0))
				checkLink(t, link(state, asked, n, 404))
				checkLink(t, link(state, asked, mostServed+n, 404))
			}
		}
	}
}

func TestWrongLinksAreSaid(t *testing.T) {
	for _, l := range links() {
		want := checkOf(l)
		if want == api.OK {
			continue
		}
		// The connection's error comes before those of events, and also without any.
		for _, e := range []api.LinkEvent{in(), end(), {}, {Kind: arrived, Code: 1}, {Kind: ended, Close: true}} {
			if got, err := persist.Step(l, e); got != (api.Link{}) || err != want {
				t.Fatalf("%v, %v: %v %v, not %v", l, e, got, err, want)
			}
			if got, n, err := persist.Run(l, []api.LinkEvent{e, e}); got != (api.Link{}) || n != 0 || err != want {
				t.Fatalf("%v, %v: %v %d %v, not %v", l, e, got, n, err, want)
			}
		}
		if got, n, err := persist.Run(l, nil); got != (api.Link{}) || n != 0 || err != want {
			t.Fatalf("%v: %v %d %v, not %v", l, got, n, err, want)
		}
		if got, err := persist.May(l); len(got) != 0 || err != want {
			t.Fatalf("%v: %v %v, not %v", l, got, err, want)
		}
		if got, err := persist.Keep(l, false); got || err != want {
			t.Fatalf("%v: %v %v, not %v", l, got, err, want)
		}
	}
}

func TestClosesExamples(t *testing.T) {
	for _, c := range []struct {
		fields []api.Field
		want   bool
	}{
		{[]api.Field{connection("keep-alive, Close")}, true},
		{nil, false},
		{[]api.Field{}, false},
		{[]api.Field{connection("a b")}, true},
		{[]api.Field{connection("")}, false},
		{[]api.Field{connection("close")}, true},
		{[]api.Field{connection("keep-alive")}, false},
		{[]api.Field{f("cONNECTION", "cLOSE")}, true},
		{[]api.Field{connection("closed")}, false},
		{[]api.Field{connection("clos")}, false},
		{[]api.Field{connection("close close")}, true},
		{[]api.Field{connection("keep-alive;")}, true},
		{[]api.Field{connection(`"close"`)}, true},
		{[]api.Field{connection(" keep-alive")}, true},
		{[]api.Field{connection("keep-alive ")}, true},
		{[]api.Field{connection(",,")}, false},
		{[]api.Field{connection(", ,\tclose\t,")}, true},
		{[]api.Field{connection("é")}, true},
		{[]api.Field{connection("a\r\nb")}, true},
		{[]api.Field{connection("\x00")}, true},
		{[]api.Field{f("Host", "close"), f("Keep-Alive", "close"), f("Close", "close"), f("", "close")}, false},
		{[]api.Field{f("Proxy-Connection", "close"), f("Connection ", "close"), f("Connections", "close")}, false},
		{[]api.Field{f("Host", "a b"), f("a b", "\x00"), connection("keep-alive")}, false},
		{[]api.Field{connection("keep-alive"), connection("upgrade"), connection("close")}, true},
		{[]api.Field{connection("close"), connection("keep-alive")}, true},
		{[]api.Field{connection("keep-alive"), connection("a b"), connection("keep-alive")}, true},
		{[]api.Field{connection("clo"), connection("se")}, false},
		{[]api.Field{f("\x00", " "), f("", ""), connection("close")}, true},
	} {
		if got := persist.Closes(c.fields); got != c.want {
			t.Errorf("%q: %v, not %v", c.fields, got, c.want)
		}
		checkCloses(t, c.fields...)
	}
}

func TestClosesValues(t *testing.T) {
	for _, l := range sequences(6, "close", "Closed", "a", ",", " ", "\t", ";") {
		checkCloses(t, connection(strings.Join(l, "")))
	}
	for _, s := range []string{"close", "CLOSE", "keep-alive", "a,close,b", "a , b", " close", ""} {
		for _, value := range around(s) {
			checkCloses(t, connection(value))
			checkCloses(t, f("connection", value))
			checkCloses(t, f("Connections", value))
		}
	}
}

func TestClosesNames(t *testing.T) {
	for _, s := range []string{"Connection", "CONNECTION", "connection", "cOnNeCtIoN", ""} {
		for _, name := range around(s) {
			for _, value := range []string{"close", "a", "a b"} {
				checkCloses(t, f(name, value))
				checkCloses(t, f("Host", "a.test"), f(name, value))
			}
		}
	}
}

func TestClosesLists(t *testing.T) {
	for _, l := range sequences(4, connection("close"), connection("keep-alive"), connection(""), connection("a b"), f("connection", "Close, a"), f("Host", "close"), f("a b", "a b")) {
		checkCloses(t, l...)
	}
	r := rand.New(rand.NewSource(1))
	for range 20000 {
		var l []api.Field
		for range r.Intn(60) {
			var value string
			for range r.Intn(6) {
				value += pick(r, "close", "Close", "keep-alive", "a", "closed", ", ", ",", ",", " ", "\t", "@")
			}
			l = append(l, f(pick(r, "Connection", "connection", "Host", "X", "Close", "", " "), value))
		}
		checkCloses(t, l...)
	}
}

func TestClosesLong(t *testing.T) {
	for _, n := range []int{31, 32, 33, 100, 10000} {
		others := slices.Repeat([]api.Field{f("a", "close"), connection("a")}, n/2)
		checkCloses(t, others...)
		checkCloses(t, append(slices.Clip(others), connection("close"))...)
		checkCloses(t, append([]api.Field{connection("close")}, others...)...)
	}
	for n := 500; n < 1030; n++ {
		for _, value := range []string{strings.Repeat("a", n), strings.Repeat(",", n), strings.Repeat("a", n-6) + ",close", "close," + strings.Repeat("a", n-6), strings.Repeat("a", n-2) + " b"} {
			checkCloses(t, connection(value))
			checkCloses(t, f("Host", value))
		}
	}
	for value, want := range map[string]bool{strings.Repeat("a", 1024): false, strings.Repeat("a", 1025): true, strings.Repeat("close,", 100000): true, strings.Repeat("\xff", 1<<20): true} {
		if got := persist.Closes([]api.Field{connection(value)}); got != want {
			t.Errorf("%d bytes: %v, not %v", len(value), got, want)
		}
	}
}

// P13.2

func TestStepExamples(t *testing.T) {
	for _, c := range []struct {
		l, want api.Link
		e       api.LinkEvent
	}{
		{link(1, false, 0, 0), link(2, false, 0, 0), in()},
		{link(1, false, 0, 0), link(2, true, 0, 0), lastIn()},
		{link(1, false, 5, 404), link(2, true, 5, 404), lastIn()},
		{link(1, false, 0, 0), link(3, false, 1, 400), wrong(400)},
		{link(1, false, 5, 200), link(3, false, 6, 431), wrong(431)},
		{link(1, false, mostServed-1, 200), link(3, false, mostServed, 599), wrong(599)},
		{link(2, false, 0, 0), link(1, false, 1, 200), out(200)},
		{link(2, false, 5, 500), link(1, false, 6, 100), out(100)},
		{link(2, false, 5, 500), link(3, false, 6, 599), lastOut(599)},
		{link(2, true, 5, 500), link(3, false, 6, 302), out(302)},
		{link(2, true, 5, 500), link(3, false, 6, 302), lastOut(302)},
		{link(2, false, mostServed-2, 200), link(1, false, mostServed-1, 201), out(201)},
		{link(2, false, mostServed-1, 200), link(3, false, mostServed, 201), out(201)},
		{link(2, true, mostServed-1, 200), link(3, false, mostServed, 201), out(201)},
		{link(1, false, 0, 0), link(3, false, 0, 0), end()},
		{link(1, false, 5, 200), link(3, false, 5, 200), end()},
		{link(2, false, 5, 200), link(2, true, 5, 200), end()},
		{link(2, true, 5, 200), link(2, true, 5, 200), end()},
	} {
		if got, err := persist.Step(c.l, c.e); got != c.want || err != api.OK {
			t.Errorf("%v, %v: %v %v, not %v", c.l, c.e, got, err, c.want)
		}
		checkStep(t, c.l, c.e)
	}
}

func TestStepRefusals(t *testing.T) {
	for _, c := range []struct {
		l    api.Link
		e    api.LinkEvent
		want api.Errno
	}{
		{link(2, false, 0, 0), in(), api.ErrState},
		{link(1, false, 0, 0), out(200), api.ErrState},
		{link(2, false, 0, 0), wrong(400), api.ErrState},
		{link(1, false, 0, 0), wrong(200), api.ErrRange},
		{link(1, false, 0, 0), api.LinkEvent{Kind: 5}, api.ErrKind},
		{link(1, false, 0, 0), api.LinkEvent{}, api.ErrKind},
		{link(1, false, 0, 0), api.LinkEvent{Kind: -1, Code: -1, Close: true}, api.ErrKind},
		{link(3, false, 0, 0), api.LinkEvent{Kind: 5, Code: 1}, api.ErrKind},
		{link(1, false, 0, 0), wrong(399), api.ErrRange},
		{link(1, false, 0, 0), wrong(600), api.ErrRange},
		{link(2, false, 0, 0), out(99), api.ErrRange},
		{link(2, false, 0, 0), out(600), api.ErrRange},
		{link(2, false, 0, 0), out(0), api.ErrRange},
		{link(1, false, 0, 0), api.LinkEvent{Kind: arrived, Code: 200}, api.ErrRange},
		{link(1, false, 0, 0), api.LinkEvent{Kind: ended, Code: -1}, api.ErrRange},
		{link(1, false, 0, 0), api.LinkEvent{Kind: ended, Code: 400, Close: true}, api.ErrRange},
		{link(1, false, 0, 0), api.LinkEvent{Kind: badRequest, Code: 399, Close: true}, api.ErrRange},
		{link(1, false, 0, 0), api.LinkEvent{Kind: badRequest, Code: 400, Close: true}, api.ErrForm},
		{link(1, false, 0, 0), api.LinkEvent{Kind: ended, Close: true}, api.ErrForm},
		{link(3, false, 0, 0), api.LinkEvent{Kind: ended, Close: true}, api.ErrForm},
		{link(2, false, mostServed, 200), api.LinkEvent{Kind: badRequest, Code: 400, Close: true}, api.ErrForm},
		{link(3, false, 0, 0), out(99), api.ErrRange},
		{link(3, false, 0, 0), in(), api.ErrState},
		{link(3, false, 0, 0), end(), api.ErrState},
		{link(3, false, 1, 400), wrong(400), api.ErrState},
		{link(3, false, 1, 200), out(200), api.ErrState},
		{link(1, false, mostServed, 200), in(), api.ErrState},
		{link(1, false, mostServed, 200), wrong(400), api.ErrState},
		{link(1, false, mostServed, 200), end(), api.ErrState},
		{link(2, false, mostServed, 200), out(200), api.ErrState},
		{link(2, true, mostServed, 200), end(), api.ErrState},
	} {
		if got, err := persist.Step(c.l, c.e); got != (api.Link{}) || err != c.want {
			t.Errorf("%v, %v: %v %v, not %v", c.l, c.e, got, err, c.want)
		}
		checkStep(t, c.l, c.e)
	}
}

func TestManySteps(t *testing.T) {
	all := events()
	for _, l := range validLinks() {
		for _, e := range all {
			checkStep(t, l, e)
		}
	}
	// Of connections that are wrong, a few are enough: Check is asked for all of them.
	for _, l := range links()[:2000] {
		for _, e := range all[:60] {
			checkStep(t, l, e)
		}
	}
}

func TestCodesOfEvents(t *testing.T) {
	for code := -1100; code < 1100; code++ {
		for kind := -1; kind < 7; kind++ {
			for _, last := range []bool{false, true} {
				e := api.LinkEvent{Kind: kind, Code: code, Close: last}
				for _, l := range starts() {
					checkStep(t, l, e)
				}
			}
		}
	}
}

// P13.3

func TestRunExamples(t *testing.T) {
	for _, c := range []struct {
		events []api.LinkEvent
		want   api.Link
		n      int
		e      api.Errno
	}{
		{nil, link(1, false, 0, 0), 0, api.OK},
		{[]api.LinkEvent{in()}, link(2, false, 0, 0), 1, api.OK},
		{[]api.LinkEvent{in(), out(200)}, link(1, false, 1, 200), 2, api.OK},
		{[]api.LinkEvent{in(), out(200), lastIn()}, link(2, true, 1, 200), 3, api.OK},
		{[]api.LinkEvent{in(), out(200), lastIn(), out(200)}, link(3, false, 2, 200), 4, api.OK},
		{[]api.LinkEvent{wrong(400)}, link(3, false, 1, 400), 1, api.OK},
		{[]api.LinkEvent{wrong(400), in()}, link(3, false, 1, 400), 1, api.ErrState},
		{[]api.LinkEvent{in(), end()}, link(2, true, 0, 0), 2, api.OK},
		{[]api.LinkEvent{in(), end(), out(404)}, link(3, false, 1, 404), 3, api.OK},
		{[]api.LinkEvent{in(), in()}, link(2, false, 0, 0), 1, api.ErrState},
		{[]api.LinkEvent{out(200)}, link(1, false, 0, 0), 0, api.ErrState},
		{[]api.LinkEvent{wrong(200)}, link(1, false, 0, 0), 0, api.ErrRange},
		{[]api.LinkEvent{{Kind: 5}}, link(1, false, 0, 0), 0, api.ErrKind},
		{[]api.LinkEvent{in(), out(200), {Kind: ended, Close: true}, in()}, link(1, false, 1, 200), 2, api.ErrForm},
		{[]api.LinkEvent{in(), {Kind: 5}, out(600), in()}, link(2, false, 0, 0), 1, api.ErrKind},
	} {
		if got, n, e := persist.Run(persist.New(), c.events); got != c.want || n != c.n || e != c.e {
			t.Errorf("%s: %v %d %v, not %v %d %v", say(c.events), got, n, e, c.want, c.n, c.e)
		}
		checkRun(t, persist.New(), c.events)
	}
}

func TestRunSequences(t *testing.T) {
	all := append(few(), wrong(399), api.LinkEvent{Kind: 5}, api.LinkEvent{Kind: ended, Close: true})
	for _, s := range sequences(4, all...) {
		for _, l := range starts() {
			checkRun(t, l, s)
		}
		checkRun(t, link(open, true, 0, 0), s)
		checkRun(t, link(open, false, 0, 1), s)
		checkRun(t, api.Link{}, s)
	}
}

func TestRunMany(t *testing.T) {
	for _, s := range runs(5000) {
		checkRun(t, persist.New(), s)
		for _, e := range []api.LinkEvent{in(), wrong(600), {}, {Kind: ended, Close: true}} {
			checkRun(t, persist.New(), append(slices.Clip(s), e, in(), out(200)))
		}
	}
}

func TestRunToTheLast(t *testing.T) {
	pairs := slices.Repeat([]api.LinkEvent{in(), out(200)}, mostServed)
	got, n, e := persist.Run(persist.New(), append(pairs, in(), out(404)))
	if got != link(closed, false, mostServed, 200) || n != 2*mostServed || e != api.ErrState {
		t.Error(got, n, e)
	}
}

func TestMayAndKeepExamples(t *testing.T) {
	for _, c := range []struct {
		l    api.Link
		want []int
	}{
		{persist.New(), []int{1, 2, 4}},
		{link(2, false, 0, 0), []int{3, 4}},
		{link(2, true, 0, 0), []int{3, 4}},
		{link(3, false, 1, 400), nil},
		{link(1, false, mostServed-1, 200), []int{1, 2, 4}},
		{link(2, false, mostServed-1, 200), []int{3, 4}},
		{link(1, false, mostServed, 200), nil},
		{link(2, false, mostServed, 200), nil},
	} {
		if got, e := persist.May(c.l); !slices.Equal(got, c.want) || e != api.OK {
			t.Errorf("%v: %v %v, not %v", c.l, got, e, c.want)
		}
	}
	for _, c := range []struct {
		l          api.Link
		last, want bool
		e          api.Errno
	}{
		{link(2, false, 0, 0), false, true, api.OK},
		{link(2, true, 0, 0), false, false, api.OK},
		{link(2, false, 0, 0), true, false, api.OK},
		{link(2, true, 0, 0), true, false, api.OK},
		{link(2, false, mostServed-2, 200), false, true, api.OK},
		{link(2, false, mostServed-1, 200), false, false, api.OK},
		{link(2, false, mostServed, 200), false, false, api.ErrState},
		{link(1, false, 0, 0), false, false, api.ErrState},
		{link(1, false, mostServed, 200), false, false, api.ErrState},
		{link(3, false, 1, 200), true, false, api.ErrState},
	} {
		if got, e := persist.Keep(c.l, c.last); got != c.want || e != c.e {
			t.Errorf("%v, %v: %v %v, not %v %v", c.l, c.last, got, e, c.want, c.e)
		}
	}
}

func TestMayIsNew(t *testing.T) {
	for _, l := range starts() {
		first, _ := persist.May(l)
		second, _ := persist.May(l)
		want := slices.Clone(first)
		if !apart(first, second) {
			t.Errorf("%v: both share memory", l)
		}
		for i := range first {
			first[i] = -1
		}
		if got, _ := persist.May(l); !slices.Equal(got, want) || !slices.Equal(second, want) {
			t.Errorf("%v: %v, %v, not %v", l, got, second, want)
		}
	}
}

func TestKeepIsWhatAnAnswerDoes(t *testing.T) {
	for _, l := range validLinks() {
		for _, e := range rightEvents() {
			if e.Kind != answered {
				continue
			}
			next, err := persist.Step(l, e)
			if got, keepErr := persist.Keep(l, e.Close); got != (next.State == open) || keepErr != err {
				t.Fatalf("%v, %v: %v %v, behind the answer %v %v", l, e, got, keepErr, next, err)
			}
		}
	}
}

// P13.4

func TestClosedRefusesAll(t *testing.T) {
	right := rightEvents()
	for _, l := range validLinks() {
		if l.State != closed {
			continue
		}
		for _, e := range right {
			if got, err := persist.Step(l, e); got != (api.Link{}) || err != api.ErrState {
				t.Fatalf("%v, %v: %v %v", l, e, got, err)
			}
			if got, n, err := persist.Run(l, []api.LinkEvent{e}); got != l || n != 0 || err != api.ErrState {
				t.Fatalf("%v, %v: %v %d %v", l, e, got, n, err)
			}
		}
	}
	for _, e := range events() {
		if _, err := persist.Step(link(closed, false, 1, 200), e); err == api.OK {
			t.Fatalf("%v is not refused", e)
		}
	}
}

// P13.5 and P13.6

func TestOneAnswerForEachRequest(t *testing.T) {
	for _, s := range append(runs(5000), sequences(5, few()...)...) {
		got, n, _ := persist.Run(persist.New(), s)
		due, served, last := 0, 0, 0
		for i, e := range s[:n] {
			switch e.Kind {
			case arrived:
				due++
			case answered:
				due--
				served++
				last = e.Code
			case badRequest:
				served++
				last = e.Code
				if due != 0 || i != n-1 {
					t.Fatalf("%s: a malformed request is answered at %d of %d, %d are due", say(s), i, n, due)
				}
			}
			if due < 0 || due > 1 {
				t.Fatalf("%s: %d are due behind %d", say(s), due, i)
			}
		}
		if got.Served != served || got.Code != last || (got.State == answering) != (due == 1) {
			t.Fatalf("%s: %v, with %d served, %d the last one, %d due", say(s), got, served, last, due)
		}
	}
}

func TestServedGrows(t *testing.T) {
	for _, l := range validLinks() {
		for _, e := range rightEvents() {
			next, err := persist.Step(l, e)
			if err != api.OK {
				continue
			}
			want := l
			if e.Kind == badRequest || e.Kind == answered {
				want.Served, want.Code = l.Served+1, e.Code
			}
			if next.Served != want.Served || next.Code != want.Code || persist.Check(next) != api.OK {
				t.Fatalf("%v, %v: %v", l, e, next)
			}
			if kinds, _ := persist.May(next); e.Kind == badRequest && len(kinds) > 0 {
				t.Fatalf("%v, %v: %v may have %v", l, e, next, kinds)
			}
		}
	}
}

// P13.7

func TestRunInTwoParts(t *testing.T) {
	all := append(runs(1000), sequences(4, append(few(), wrong(399))...)...)
	for _, s := range all {
		whole, n, e := persist.Run(persist.New(), s)
		for at := range len(s) + 1 {
			got, first, err := persist.Run(persist.New(), s[:at])
			more := 0
			if err == api.OK {
				got, more, err = persist.Run(got, s[at:])
			}
			if got != whole || first+more != n || err != e {
				t.Fatalf("%s at %d: %v %d %v, not %v %d %v", say(s), at, got, first+more, err, whole, n, e)
			}
		}
	}
}

func TestRunIsStepByStep(t *testing.T) {
	for _, s := range runs(2000) {
		now := persist.New()
		steps, want := 0, api.OK
		for _, e := range s {
			next, err := persist.Step(now, e)
			if want = err; err != api.OK {
				break
			}
			now, steps = next, steps+1
		}
		if got, n, e := persist.Run(persist.New(), s); got != now || n != steps || e != want {
			t.Fatalf("%s: %v %d %v, not %v %d %v", say(s), got, n, e, now, steps, want)
		}
	}
}

// P13.8

func TestOpenBehindAnAnswer(t *testing.T) {
	for _, s := range append(runs(5000), sequences(5, few()...)...) {
		for _, start := range []api.Link{persist.New(), link(open, false, mostServed-2, 200)} {
			now, asked := start, false
			for _, e := range s {
				next, err := persist.Step(now, e)
				if err != api.OK {
					break
				}
				asked = asked || e.Close || e.Kind == ended
				keeps := !asked && now.Served+1 < mostServed
				if kept, err := persist.Keep(now, e.Close); e.Kind == answered && (kept != keeps || err != api.OK || (next.State == open) != keeps) {
					t.Fatalf("%s: %v behind %v, keeps %v, kept %v %v", say(s), next, e, keeps, kept, err)
				}
				now = next
			}
		}
	}
}

// P13.9

func TestMayIsRight(t *testing.T) {
	right := rightEvents()
	for _, l := range append(validLinks(), starts()...) {
		kinds, err := persist.May(l)
		if err != api.OK || !slices.IsSorted(kinds) || len(slices.Compact(slices.Clone(kinds))) != len(kinds) {
			t.Fatalf("%v: %v %v", l, kinds, err)
		}
		for _, e := range right {
			_, err := persist.Step(l, e)
			if slices.Contains(kinds, e.Kind) != (err == api.OK) {
				t.Fatalf("%v: %v, but %v is %v", l, kinds, e, err)
			}
		}
	}
}
