package der

import "bytes"

// firstYear is the one from whose beginning seconds are counted.
const firstYear = 1970

// A UTCTime tells a year's last two digits: from firstShort on they are of the
// century ahead, and lastShort is the last year that has any.
const (
	firstShort = '5'
	lastShort  = 2049
)

// lastYear is the last one of four digits.
const lastYear = 9999

const daySeconds = 24 * 60 * 60

// A moment is a second of the calendar, in Greenwich; a year's months and a
// month's days are counted from 1.
type moment struct{ year, month, day, hour, minute, second uint64 }

// Time: seconds since 1970 of a UTCTime's or GeneralizedTime's bytes.
func Time(tag byte, b []byte) (uint64, bool) {
	digits, ok := allDigits(tag, b)
	if !ok {
		return 0, false
	}
	m := momentOf(digits)
	if !m.there() {
		return 0, false
	}
	return m.seconds(), true
}

// When: a time as an element: UTCTime up to 2049, GeneralizedTime behind that; none behind 9999.
func When(t uint64) []byte {
	if t/daySeconds >= daysAhead(lastYear+1) {
		return nil
	}
	m := momentAt(t)
	text := m.text()
	if m.year <= lastShort {
		return Put(Utc, text[2:])
	}
	return Put(General, text)
}

// allDigits: the fourteen digits of a time's bytes, the century's too where
// they don't tell it; false: they aren't a time's.
func allDigits(tag byte, b []byte) ([]byte, bool) {
	digits, ends := bytes.CutSuffix(b, []byte{'Z'})
	if !ends || !onlyDigits(digits) {
		return nil, false
	}
	switch {
	case tag == General && len(digits) == 14:
		return digits, true
	case tag == Utc && len(digits) == 12 && digits[0] >= firstShort:
		return append([]byte("19"), digits...), true
	case tag == Utc && len(digits) == 12:
		return append([]byte("20"), digits...), true
	}
	return nil, false
}

func onlyDigits(b []byte) bool {
	for _, x := range b {
		if x < '0' || x > '9' {
			return false
		}
	}
	return true
}

// momentOf: what fourteen digits tell, whether it is there or not.
func momentOf(digits []byte) moment {
	var p [7]uint64
	for i := range p {
		p[i] = 10*uint64(digits[2*i]-'0') + uint64(digits[2*i+1]-'0')
	}
	return moment{year: 100*p[0] + p[1], month: p[2], day: p[3], hour: p[4], minute: p[5], second: p[6]}
}

// text: fourteen digits and a Z.
func (m moment) text() []byte {
	var b []byte
	for _, p := range [7]uint64{m.year / 100, m.year % 100, m.month, m.day, m.hour, m.minute, m.second} {
		b = append(b, byte('0'+p/10), byte('0'+p%10))
	}
	return append(b, 'Z')
}

// there: are there such a day and such a second, and can they be counted?
func (m moment) there() bool {
	return m.year >= firstYear &&
		m.month >= 1 && m.month <= 12 &&
		m.day >= 1 && m.day <= daysOf(m.year, m.month) &&
		m.hour < 24 && m.minute < 60 && m.second < 60
}

// seconds: since the beginning of the first year, of a moment that is there.
func (m moment) seconds() uint64 {
	days := daysAhead(m.year) + m.day - 1
	for month := uint64(1); month < m.month; month++ {
		days += daysOf(m.year, month)
	}
	return ((days*24+m.hour)*60+m.minute)*60 + m.second
}

// momentAt: back.
func momentAt(t uint64) moment {
	days := t / daySeconds
	// No year has more than 366 days: the one that is looked for isn't ahead.
	year := firstYear + days/366
	for daysAhead(year+1) <= days {
		year++
	}
	days -= daysAhead(year)
	month := uint64(1)
	for daysOf(year, month) <= days {
		days -= daysOf(year, month)
		month++
	}
	return moment{year: year, month: month, day: days + 1, hour: t / 3600 % 24, minute: t / 60 % 60, second: t % 60}
}

// daysAhead: from the beginning of the first year to that of one from it on.
func daysAhead(year uint64) uint64 {
	return 365*(year-firstYear) + leapYears(year) - leapYears(firstYear)
}

// leapYears: how many lie ahead of a year.
func leapYears(year uint64) uint64 {
	past := year - 1
	return past/4 - past/100 + past/400
}

// leap: does a year have the 29th of February?
func leap(year uint64) bool { return year%4 == 0 && (year%100 != 0 || year%400 == 0) }

// daysOf: how many days a month has, of those from 1 to 12.
func daysOf(year, month uint64) uint64 {
	switch month {
	case 2:
		if leap(year) {
			return 29
		}
		return 28
	case 4, 6, 9, 11:
		return 30
	}
	return 31
}
